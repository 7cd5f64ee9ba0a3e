package finite_test

import (
	"slices"
	"testing"

	"ostler/api"
	"ostler/arith"
	"ostler/finite"
	"ostler/match"
	"ostler/safety"
	"ostler/term"
)

// P10.5

// depthOf returns the depth of a term, counted as that of an occurrence.
func depthOf(t api.Term) int {
	depth := 0
	for _, arg := range t.Args {
		depth = max(depth, depthOf(arg))
	}
	if t.Kind == api.TermFun || t.Kind == api.TermOp {
		depth++
	}
	return depth
}

// constant returns a number that is no less than the depths in a head and the equations of its premises together, those of ground terms included.
func constant(p api.Prog) int {
	most := 0
	for _, r := range p.Rules {
		for _, h := range r.Heads {
			sum := 0
			for _, arg := range h.Atom.Args {
				sum = max(sum, depthOf(arg))
			}
			for _, e := range equationsOf(premisesOf(r, h)) {
				sum += depthOf(e.t)
			}
			most = max(most, sum)
		}
	}
	return most
}

// derivation has the atoms that a program derives if only premises count.
type derivation struct {
	atoms []api.Atom
	known map[string]bool
}

// add adds an atom, and reports whether it is new.
func (d *derivation) add(a api.Atom) bool {
	text := term.String(api.Term{Kind: api.TermFun, Name: a.Pred, Args: a.Args})
	if d.known[text] {
		return false
	}
	d.known[text] = true
	d.atoms = append(d.atoms, a)
	return true
}

// derive derives atoms, and reports whether there are at most so many.
func derive(p api.Prog, most int) (*derivation, bool) {
	d := &derivation{known: map[string]bool{}}
	for again := true; again; {
		again = false
		for _, r := range p.Rules {
			for _, h := range r.Heads {
				for b := range d.solutions(premisesOf(r, h), nil) {
					for _, args := range expansions(match.ApplyAtom(h.Atom, b).Args) {
						again = d.add(atom(h.Atom.Pred, args...)) || again
					}
					if len(d.atoms) > most {
						return d, false
					}
				}
			}
		}
	}
	return d, true
}

// expansions returns all combinations of the expansions of terms.
func expansions(l []api.Term) [][]api.Term {
	values, _ := arith.Expand(function(append([]api.Term{number(0)}, l...)...))
	var all [][]api.Term
	for _, v := range values {
		all = append(all, v.Args[1:])
	}
	return all
}

// solutions yields the bindings that make premises true.
func (d *derivation) solutions(premises []api.Lit, b api.Binding) func(yield func(api.Binding) bool) {
	return func(yield func(api.Binding) bool) { d.solve(premises, b, yield) }
}

func (d *derivation) solve(premises []api.Lit, b api.Binding, yield func(api.Binding) bool) bool {
	if len(premises) == 0 {
		return yield(b)
	}
	for i, l := range premises {
		if ready(l, b) {
			rest := slices.Delete(slices.Clone(premises), i, i+1)
			for _, next := range d.extensions(l, b) {
				if !d.solve(rest, next, yield) {
					return false
				}
			}
			return true
		}
	}
	return true
}

// ready reports whether a literal binds those of its variables that are not bound yet.
func ready(l api.Lit, b api.Binding) bool {
	var given []string
	for _, x := range b {
		given = append(given, x.Name)
	}
	bound := safety.Bound([]api.Lit{l}, given)
	return !slices.ContainsFunc(variables(l), func(name string) bool { return !slices.Contains(bound, name) })
}

func variables(l api.Lit) []string {
	if l.Kind == api.LitAtom {
		return term.Vars(function(l.Atom.Args...))
	}
	return term.Vars(function(l.L, l.R))
}

// extensions returns the extensions of a binding by a literal.
func (d *derivation) extensions(l api.Lit, b api.Binding) []api.Binding {
	var all []api.Binding
	if l.Kind == api.LitAtom {
		for _, a := range d.atoms {
			if next, ok := match.MatchAtom(l.Atom, a, b); ok {
				all = append(all, next)
			}
		}
		return all
	}
	side, other := match.Apply(l.L, b), match.Apply(l.R, b)
	if len(term.Vars(other)) > 0 {
		side, other = other, side
	}
	values, _ := arith.Expand(other)
	for _, v := range values {
		next, ok := match.Match(side, v, b)
		if ok && !slices.ContainsFunc(all, func(old api.Binding) bool { return slices.EqualFunc(old, next, sameBind) }) {
			all = append(all, next)
		}
	}
	return all
}

func sameBind(a, b api.Bind) bool { return a.Name == b.Name && term.Compare(a.Val, b.Val) == 0 }

// derivable produces a program that derives something: its premises bind their variables, and there are some facts.
func (g random) derivable() api.Prog {
	var p api.Prog
	for len(p.Rules) < 4 {
		r := g.rule()
		if r.Kind == api.RuleDisj && len(r.Heads) == 0 {
			continue
		}
		for _, h := range r.Heads {
			premises := slices.DeleteFunc(premisesOf(r, h), func(l api.Lit) bool { return l.Kind == api.LitComp && l.Op != api.OpEq })
			r = api.Rule{Kind: api.RuleChoice, Heads: []api.Head{{Atom: h.Atom, Cond: premises}}}
			if len(safety.Unsafe(r)) == 0 && term.Valid(function(function(h.Atom.Args...))) {
				p.Rules = append(p.Rules, r)
			}
		}
	}
	one := number(1)
	return program(append(p.Rules, rule(atom("q", one)), rule(atom("r", function(number(2)))), rule(atom("p", interval(one, number(2)))), rule(atom("p", function(one), one)), rule(atom("s")))...)
}

// TestDerivableAtomsAreFinitelyMany checks that what argument-restricted programs derive comes to an end, and the depths of it.
func TestDerivableAtomsAreFinitelyMany(t *testing.T) {
	g := newRandom(1, false)
	restricted, deep, endless := 0, 0, 0
	for range 1000 {
		p := g.derivable()
		ranks, e := finite.Ranks(p)
		d, ends := derive(p, 150)
		switch {
		case e == api.OK && !ends:
			t.Fatalf("%+v derives %d atoms", p, len(d.atoms))
		case e == api.OK:
			restricted++
		case !ends:
			endless++
		}
		if e != api.OK {
			continue
		}
		m, most := rankingOf(p, ranks), constant(p)
		for _, a := range d.atoms {
			for i, arg := range a.Args {
				if depthOf(arg) > int(m.of(a, i))+most {
					t.Fatalf("%+v: %s(%s) with ranks %v", p, a.Pred, term.String(arg), ranks)
				}
				if depthOf(arg) > most {
					deep++
				}
			}
		}
	}
	if restricted < 500 || deep < 50 || endless < 10 {
		t.Error("the samples are one-sided", restricted, deep, endless)
	}
}
