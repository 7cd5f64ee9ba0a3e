package safety_test

import (
	"math/rand/v2"

	"ostler/api"
)

// random produces rules. If it is wild, some of their kinds and flags are not those that a source has.
type random struct {
	*rand.Rand
	wild bool
}

func newRandom(seed uint64, wild bool) random { return random{rand.New(rand.NewPCG(seed, 0)), wild} }

func (g random) pick(names ...string) string { return names[g.IntN(len(names))] }

func (g random) variable() api.Term { return variable(g.pick("V", "W", "X", "Y", "Z", "_")) }

// kind produces a kind between two others, or seldom any other one.
func (g random) kind(first, last uint8) uint8 {
	if g.wild && g.IntN(8) == 0 {
		return uint8(g.IntN(8))
	}
	return first + uint8(g.IntN(int(last-first)+1))
}

// some produces up to most items.
func some[T any](g random, most int, item func() T) []T {
	var l []T
	for range g.IntN(most + 1) {
		l = append(l, item())
	}
	return l
}

func (g random) flag(one int) bool { return g.IntN(one) == 0 }

func (g random) term() api.Term {
	switch {
	case g.flag(5):
		return number(g.IntN(3))
	case g.flag(6):
		return function("f", append(some(g, 2, g.term), g.term())...)
	case g.flag(6):
		return sum(g.term(), g.term())
	case g.flag(12):
		return api.Term{Kind: api.TermRange, Args: []api.Term{g.term(), g.term()}}
	case g.wild && g.flag(6):
		return api.Term{Kind: uint8(g.IntN(9)), Num: g.IntN(3), Name: g.pick("X", "Y", "Z"), Args: some(g, 3, g.term)}
	}
	return g.variable()
}

func (g random) literal() api.Lit {
	l := api.Lit{Kind: g.kind(api.LitAtom, api.LitComp), Not: g.flag(8), Op: api.OpEq, Atom: atom("p", some(g, 2, g.term)...), L: g.term(), R: g.term()}
	if g.flag(5) {
		l.Op = g.kind(api.OpEq, api.OpGe)
	}
	if g.wild && g.flag(4) {
		return l
	}
	if l.Kind == api.LitAtom {
		return api.Lit{Kind: l.Kind, Not: l.Not, Atom: l.Atom}
	}
	return api.Lit{Kind: l.Kind, Op: l.Op, L: l.L, R: l.R}
}

func (g random) literals() []api.Lit { return some(g, 4, g.literal) }

func (g random) elem() api.Elem {
	return api.Elem{Tuple: some(g, 2, g.term), Cond: g.literals()}
}

func (g random) element() api.Body {
	b := api.Body{Kind: g.kind(api.BodyLit, api.BodyAgg), Lit: g.literal(), Cond: g.literals(), Not: g.flag(2), Fun: api.AggSum, Elems: some(g, 3, g.elem), Op: api.OpGe, Bound: g.term()}
	switch {
	case g.wild && g.flag(4):
		return b
	case g.flag(2):
		return bodyLit(b.Lit)
	case b.Kind == api.BodyCond:
		return api.Body{Kind: b.Kind, Lit: b.Lit, Cond: b.Cond}
	}
	return api.Body{Kind: b.Kind, Not: b.Not, Fun: b.Fun, Elems: b.Elems, Op: b.Op, Bound: b.Bound}
}

func (g random) head() api.Head {
	return api.Head{Atom: atom("p", some(g, 2, g.term)...), Cond: g.literals()}
}

func (g random) rule() api.Rule {
	r := api.Rule{Kind: g.kind(api.RuleDisj, api.RuleWeak), Heads: some(g, 2, g.head), Body: some(g, 6, g.element)}
	if r.Kind == api.RuleChoice && g.flag(2) || g.wild && g.flag(4) {
		r.Lower, r.Upper = g.term(), g.term()
	}
	if r.Kind == api.RuleWeak || g.wild && g.flag(4) {
		r.Weight, r.Level, r.Tuple = g.term(), g.term(), some(g, 3, g.term)
	}
	if r.Kind == api.RuleDisj && !g.wild {
		for i := range r.Heads {
			r.Heads[i].Cond = nil
		}
	}
	return r
}

// saferRule produces a rule that is mostly safe.
func (g random) saferRule() api.Rule {
	r := g.rule()
	if !g.flag(5) {
		var args []api.Term
		for _, name := range referenceUnsafe(r) {
			args = append(args, variable(name))
		}
		r.Body = append(r.Body, bodyLit(positive("q", args...)))
	}
	return r
}

// equational produces a constraint with a body of positive atoms and equations without intervals, most of which have a side that is a variable.
func (g random) equational() api.Rule {
	simple := func() api.Term {
		if g.flag(3) {
			return number(g.IntN(3))
		}
		return variable(g.pick("V", "W", "X", "Y"))
	}
	r := api.Rule{Kind: api.RuleDisj, Body: some(g, 1, func() api.Body { return bodyLit(positive("p", simple())) })}
	for range 1 + g.IntN(4) {
		sides := []api.Term{simple(), simple()}
		if g.flag(2) {
			sides[1] = sum(sides[1], simple())
		}
		if g.flag(6) {
			sides[0] = sum(sides[0], simple())
		}
		i := g.IntN(2)
		r.Body = append(r.Body, bodyLit(equation(sides[i], sides[1-i])))
	}
	return r
}
