package finite_test

import (
	"math/rand/v2"
	"slices"

	"ostler/api"
)

// random produces programs. If it is wild, some of their kinds and fields are not those that a source has.
type random struct {
	*rand.Rand
	wild bool
}

func newRandom(seed uint64, wild bool) random { return random{rand.New(rand.NewPCG(seed, 0)), wild} }

func (g random) flag(one int) bool { return g.IntN(one) == 0 }

func (g random) pick(names ...string) string { return names[g.IntN(len(names))] }

// some produces from least to most items.
func some[T any](g random, least, most int, item func() T) []T {
	var l []T
	for range least + g.IntN(most-least+1) {
		l = append(l, item())
	}
	return l
}

// kind produces a kind between two others, or seldom any other one.
func (g random) kind(first, last uint8) uint8 {
	if g.wild && g.flag(8) {
		return uint8(g.IntN(8))
	}
	return first + uint8(g.IntN(int(last-first)+1))
}

func (g random) variable() api.Term { return variable(g.pick("X", "Y", "Z", "_")) }

// term produces a term that is a variable at least once in a number of cases.
func (g random) term(simple int) api.Term {
	inner := func() api.Term { return g.term(simple) }
	switch {
	case !g.flag(simple):
		return g.variable()
	case g.flag(5):
		return number(g.IntN(3))
	case g.wild && g.flag(4):
		return api.Term{Kind: uint8(g.IntN(9)), Num: g.IntN(3), Name: g.pick("X", "Y", "Z"), Args: some(g, 0, 3, inner)}
	case g.flag(4):
		return operation(some(g, 1, 2, inner)...)
	case g.flag(6):
		return interval(inner(), inner())
	}
	return function(some(g, 1, 2, inner)...)
}

// atom produces an atom whose arguments are from a term function.
func (g random) atom(arg func() api.Term) api.Atom {
	pred := g.pick("p", "q", "r", "s")
	most := map[string]int{"p": 2, "q": 1, "r": 1, "s": 0}[pred]
	return atom(pred, some(g, most/2, most, arg)...)
}

func (g random) premiseTerm() api.Term { return g.term(4) }

func (g random) headTerm() api.Term { return g.term(2) }

func (g random) literal() api.Lit {
	l := api.Lit{Kind: g.kind(api.LitAtom, api.LitComp), Not: g.flag(12), Op: api.OpEq, Atom: g.atom(g.premiseTerm), L: g.term(4), R: g.term(3)}
	if g.flag(3) {
		l.L, l.R = l.R, l.L
	}
	if g.flag(12) {
		l.Op = g.kind(api.OpEq, api.OpGe)
	}
	if !g.wild && g.flag(2) {
		l.Kind = api.LitAtom
	}
	switch {
	case g.wild && g.flag(4):
		return l
	case l.Kind == api.LitAtom:
		return api.Lit{Kind: l.Kind, Not: l.Not, Atom: l.Atom}
	}
	return api.Lit{Kind: l.Kind, Op: l.Op, L: l.L, R: l.R}
}

func (g random) elem() api.Elem { return api.Elem{Cond: some(g, 0, 2, g.literal)} }

func (g random) body() api.Body {
	b := api.Body{Kind: g.kind(api.BodyLit, api.BodyAgg), Lit: g.literal(), Cond: some(g, 0, 1, g.literal), Elems: some(g, 0, 2, g.elem), Bound: number(1)}
	switch {
	case g.wild && g.flag(3):
		return b
	case !g.flag(8):
		return bodyLit(b.Lit)
	case b.Kind == api.BodyCond:
		return api.Body{Kind: b.Kind, Lit: b.Lit, Cond: b.Cond}
	}
	return api.Body{Kind: b.Kind, Elems: b.Elems, Bound: b.Bound}
}

func (g random) head() api.Head {
	return api.Head{Atom: g.atom(g.headTerm), Cond: some(g, 0, 2, g.literal)}
}

func (g random) rule() api.Rule {
	r := api.Rule{Kind: g.kind(api.RuleDisj, api.RuleWeak), Heads: some(g, 0, 2, g.head), Body: some(g, 0, 4, g.body)}
	if r.Kind != api.RuleChoice && !g.flag(4) {
		r.Kind, r.Heads = api.RuleDisj, some(g, 1, 1, g.head)
	}
	for i := range r.Heads {
		if r.Kind == api.RuleDisj && !g.wild {
			r.Heads[i].Cond = nil
		}
	}
	if !g.flag(15) {
		g.bind(&r)
	}
	return r
}

// bind adds positive atoms with the variables that occur in heads and have no bound.
func (g random) bind(r *api.Rule) {
	for i, h := range r.Heads {
		bounds := referenceBounds(premisesOf(*r, h), nil)
		for _, arg := range h.Atom.Args {
			for _, o := range find(arg) {
				if _, ok := bounds[o.name]; ok {
					continue
				}
				l := api.Lit{Kind: api.LitAtom, Atom: g.atomWith(o.name)}
				if r.Kind == api.RuleChoice && g.flag(2) {
					r.Heads[i].Cond = append(slices.Clip(h.Cond), l)
				} else {
					r.Body = append(r.Body, bodyLit(l))
				}
				bounds[o.name] = 0
			}
		}
	}
}

// atomWith produces an atom in which a variable has a plain occurrence.
func (g random) atomWith(name string) api.Atom {
	x := variable(name)
	for g.flag(4) {
		x = function(x)
	}
	args := []api.Term{x}
	if g.flag(3) {
		return atom("p", slices.Insert(args, g.IntN(2), g.variable())...)
	}
	return atom(g.pick("p", "q", "r"), args...)
}

func (g random) program() api.Prog { return api.Prog{Rules: some(g, 0, 6, g.rule)} }
