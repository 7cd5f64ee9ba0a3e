package finite_test

import (
	"cmp"
	"math"
	"slices"

	"ostler/api"
	"ostler/finite"
)

// The functions of this file are the definitions of the chapter, without regard to time. Minus infinity is that of floating-point numbers.

func referencePlaces(p api.Prog) []finite.Place {
	var l []finite.Place
	add := func(a api.Atom) {
		for i := range a.Args {
			l = append(l, finite.Place{Sig: api.Sig{Name: a.Pred, Arity: len(a.Args)}, Arg: i})
		}
	}
	literals := func(list []api.Lit) {
		for _, x := range list {
			if x.Kind == api.LitAtom {
				add(x.Atom)
			}
		}
	}
	for _, r := range p.Rules {
		for _, h := range r.Heads {
			add(h.Atom)
			literals(h.Cond)
		}
		for _, b := range r.Body {
			literals([]api.Lit{b.Lit})
			literals(b.Cond)
			for _, e := range b.Elems {
				literals(e.Cond)
			}
		}
	}
	slices.SortFunc(l, func(a, b finite.Place) int {
		return cmp.Or(cmp.Compare(a.Sig.Name, b.Sig.Name), cmp.Compare(a.Sig.Arity, b.Sig.Arity), cmp.Compare(a.Arg, b.Arg))
	})
	return slices.Compact(l)
}

// found is an occurrence of a variable.
type found struct {
	name  string
	depth float64
	plain bool
}

func find(t api.Term) []found {
	if t.Kind == api.TermVar {
		return []found{{t.Name, 0, true}}
	}
	var l []found
	for _, arg := range t.Args {
		for _, o := range find(arg) {
			if t.Kind == api.TermFun || t.Kind == api.TermOp {
				o.depth++
			}
			o.plain = o.plain && t.Kind == api.TermFun
			l = append(l, o)
		}
	}
	return l
}

// ranking gives the rank of an argument of an atom.
type ranking map[finite.Place]int

func rankingOf(p api.Prog, ranks []int) ranking {
	m := ranking{}
	for i, x := range referencePlaces(p) {
		m[x] = ranks[i]
	}
	return m
}

func (m ranking) of(a api.Atom, arg int) float64 {
	return float64(m[finite.Place{Sig: api.Sig{Name: a.Pred, Arity: len(a.Args)}, Arg: arg}])
}

func premisesOf(r api.Rule, h api.Head) []api.Lit {
	var l []api.Lit
	for _, b := range r.Body {
		if b.Kind == api.BodyLit {
			l = append(l, b.Lit)
		}
	}
	return slices.DeleteFunc(append(l, h.Cond...), func(x api.Lit) bool { return x.Not })
}

type pair struct{ x, t api.Term }

func equationsOf(premises []api.Lit) []pair {
	var l []pair
	for _, x := range premises {
		if x.Kind == api.LitComp && x.Op == api.OpEq {
			for _, e := range []pair{{x.L, x.R}, {x.R, x.L}} {
				if e.x.Kind == api.TermVar {
					l = append(l, e)
				}
			}
		}
	}
	return l
}

// referenceBounds returns the bounds of the variables that have one.
func referenceBounds(premises []api.Lit, m ranking) map[string]float64 {
	bounds := map[string]float64{}
	for _, x := range premises {
		for i, arg := range x.Atom.Args {
			for _, o := range find(arg) {
				if x.Kind == api.LitAtom && o.plain {
					improve(bounds, o.name, m.of(x.Atom, i)-o.depth)
				}
			}
		}
	}
	for again := true; again; {
		again = false
		for _, e := range equationsOf(premises) {
			if bound, ok := boundBy(e.t, bounds); ok && improve(bounds, e.x.Name, bound) {
				again = true
			}
		}
	}
	return bounds
}

// improve lowers a bound, and reports whether it does.
func improve(bounds map[string]float64, name string, bound float64) bool {
	if old, ok := bounds[name]; ok && old <= bound {
		return false
	}
	bounds[name] = bound
	return true
}

// boundBy returns the bound that an equation gives by a term.
func boundBy(t api.Term, bounds map[string]float64) (float64, bool) {
	greatest := math.Inf(-1)
	for _, o := range find(t) {
		bound, ok := bounds[o.name]
		if !ok {
			return 0, false
		}
		greatest = max(greatest, o.depth+bound)
	}
	return greatest, true
}

// needed returns, for each place, the least rank that a ranking allows for it, and whether all variables of heads have bounds.
func needed(p api.Prog, ranks []int) ([]float64, bool) {
	m, places := rankingOf(p, ranks), referencePlaces(p)
	need := make([]float64, len(places))
	for _, r := range p.Rules {
		for _, h := range r.Heads {
			bounds := referenceBounds(premisesOf(r, h), m)
			for arg, term := range h.Atom.Args {
				i := slices.Index(places, finite.Place{Sig: api.Sig{Name: h.Atom.Pred, Arity: len(h.Atom.Args)}, Arg: arg})
				for _, o := range find(term) {
					bound, ok := bounds[o.name]
					if !ok {
						return nil, false
					}
					need[i] = max(need[i], o.depth+bound)
				}
			}
		}
	}
	return need, true
}

func referenceFits(p api.Prog, ranks []int) bool {
	if len(ranks) != len(referencePlaces(p)) {
		return false
	}
	need, ok := needed(p, ranks)
	for i, rank := range ranks {
		if !ok || rank < 0 || rank > finite.MaxRank || float64(rank) < need[i] {
			return false
		}
	}
	return ok
}

// greatest returns the number that no rank exceeds by P10.4: n·D.
func greatest(p api.Prog) int {
	d := 0.0
	for _, r := range p.Rules {
		for _, h := range r.Heads {
			inHead, sum := 0.0, 0.0
			for _, arg := range h.Atom.Args {
				inHead = max(inHead, deepest(arg))
			}
			for _, e := range equationsOf(premisesOf(r, h)) {
				sum += deepest(e.t)
			}
			d = max(d, inHead+sum)
		}
	}
	return len(referencePlaces(p)) * int(d)
}

func deepest(t api.Term) float64 {
	d := 0.0
	for _, o := range find(t) {
		d = max(d, o.depth)
	}
	return d
}

// referenceRanks raises all ranks until they fit, or are too great to fit. The result of a program that is not argument-restricted is false.
func referenceRanks(p api.Prog) ([]int, bool) {
	ranks := make([]int, len(referencePlaces(p)))
	for {
		need, ok := needed(p, ranks)
		if !ok {
			return nil, false
		}
		rises := false
		for i, n := range need {
			if int(n) > ranks[i] {
				ranks[i], rises = int(n), true
			}
			if ranks[i] > greatest(p) {
				return nil, false
			}
		}
		if !rises {
			return ranks, true
		}
	}
}

func referenceResult(p api.Prog) string {
	ranks, ok := referenceRanks(p)
	if !ok {
		return none
	}
	return textOf(referencePlaces(p), ranks)
}
