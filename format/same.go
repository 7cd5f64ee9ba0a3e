package format

import (
	"slices"

	"ostler/api"
	"ostler/term"
)

// SameRule reports whether two rules are equal.
func SameRule(a, b api.Rule) bool {
	return a.Kind == b.Kind && slices.EqualFunc(a.Heads, b.Heads, sameHead) &&
		term.Equal(a.Lower, b.Lower) && term.Equal(a.Upper, b.Upper) &&
		slices.EqualFunc(a.Body, b.Body, sameBody) &&
		term.Equal(a.Weight, b.Weight) && term.Equal(a.Level, b.Level) && sameTerms(a.Tuple, b.Tuple)
}

// Same reports whether two programs are equal.
func Same(a, b api.Prog) bool {
	return slices.EqualFunc(a.Rules, b.Rules, SameRule) && slices.EqualFunc(a.Consts, b.Consts, sameConst) &&
		slices.Equal(a.Shows, b.Shows) && a.Some == b.Some
}

func sameConst(a, b api.Const) bool { return a.Name == b.Name && term.Equal(a.Val, b.Val) }

func sameHead(a, b api.Head) bool { return sameAtom(a.Atom, b.Atom) && sameLits(a.Cond, b.Cond) }

func sameBody(a, b api.Body) bool {
	return a.Kind == b.Kind && sameLit(a.Lit, b.Lit) && sameLits(a.Cond, b.Cond) &&
		a.Not == b.Not && a.Fun == b.Fun && slices.EqualFunc(a.Elems, b.Elems, sameElem) &&
		a.Op == b.Op && term.Equal(a.Bound, b.Bound)
}

func sameElem(a, b api.Elem) bool { return sameTerms(a.Tuple, b.Tuple) && sameLits(a.Cond, b.Cond) }

func sameLits(a, b []api.Lit) bool { return slices.EqualFunc(a, b, sameLit) }

func sameLit(a, b api.Lit) bool {
	return a.Kind == b.Kind && a.Not == b.Not && sameAtom(a.Atom, b.Atom) &&
		a.Op == b.Op && term.Equal(a.L, b.L) && term.Equal(a.R, b.R)
}

func sameAtom(a, b api.Atom) bool { return a.Pred == b.Pred && sameTerms(a.Args, b.Args) }

func sameTerms(a, b []api.Term) bool { return slices.EqualFunc(a, b, term.Equal) }
