package depend_test

import (
	"math/rand/v2"

	"ostler/api"
)

// random produces programs. If it is wild, some of their kinds and fields are not those that a source has.
type random struct {
	*rand.Rand
	wild bool
}

func newRandom(seed uint64, wild bool) random { return random{rand.New(rand.NewPCG(seed, 0)), wild} }

func (g random) flag(one int) bool { return g.IntN(one) == 0 }

// some produces from least to most items.
func some[T any](g random, least, most int, item func() T) []T {
	var l []T
	for range least + g.IntN(most-least+1) {
		l = append(l, item())
	}
	return l
}

// kind produces a kind between two others, or seldom any other one.
func (g random) kind(first, last uint8) uint8 {
	if g.wild && g.flag(8) {
		return uint8(g.IntN(8))
	}
	return first + uint8(g.IntN(int(last-first)+1))
}

func (g random) atom() api.Atom {
	names := []string{"a", "b", "c", "d", "e", "f", "B", "aa"}
	return api.Atom{Pred: names[g.IntN(len(names))], Args: make([]api.Term, g.IntN(2), 2)}
}

func (g random) lit() api.Lit {
	l := api.Lit{Kind: g.kind(api.LitAtom, api.LitComp), Not: g.flag(5), Atom: g.atom(), Op: api.OpLt}
	if !g.wild || g.flag(2) {
		l.Kind = api.LitAtom
	}
	return l
}

func (g random) elem() api.Elem { return api.Elem{Cond: some(g, 0, 2, g.lit)} }

func (g random) body() api.Body {
	b := api.Body{Kind: g.kind(api.BodyLit, api.BodyAgg), Lit: g.lit(), Cond: some(g, 0, 1, g.lit), Not: g.flag(2), Elems: some(g, 0, 2, g.elem)}
	if !g.wild && !g.flag(8) {
		b.Kind = api.BodyLit
	}
	if g.wild && g.flag(2) {
		return b
	}
	switch b.Kind {
	case api.BodyLit:
		return bodyLit(b.Lit)
	case api.BodyCond:
		return api.Body{Kind: b.Kind, Lit: b.Lit, Cond: b.Cond}
	}
	return api.Body{Kind: b.Kind, Not: b.Not, Elems: b.Elems}
}

func (g random) head() api.Head { return api.Head{Atom: g.atom(), Cond: some(g, 0, 1, g.lit)} }

func (g random) rule() api.Rule {
	r := api.Rule{Kind: g.kind(api.RuleDisj, api.RuleWeak), Heads: some(g, 0, 3, g.head), Body: some(g, 0, 2, g.body)}
	switch {
	case g.wild && g.flag(2):
		return r
	case g.flag(2):
		r.Kind, r.Heads = api.RuleDisj, some(g, 1, 1, g.head)
	case r.Kind == api.RuleWeak:
		r.Heads = nil
	}
	for i := range r.Heads {
		if r.Kind == api.RuleDisj {
			r.Heads[i].Cond = nil
		}
	}
	return r
}

func (g random) program() api.Prog { return api.Prog{Rules: some(g, 0, 8, g.rule)} }
