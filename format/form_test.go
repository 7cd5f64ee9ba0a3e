package format_test

import (
	"ostler/api"
	"ostler/term"
)

// The functions of this file tell, from the grammar and its limits, whether a value is one that the parser can return.

func formOfProgram(p api.Prog) bool {
	return (p.Some || len(p.Shows) == 0) && formOfAll(p.Rules, formOfRule) && formOfAll(p.Consts, formOfConst) && formOfAll(p.Shows, formOfSig)
}

func formOfConst(c api.Const) bool { return term.Symbol(c.Name) && term.Valid(c.Val) }

func formOfSig(s api.Sig) bool { return term.Symbol(s.Name) && 0 <= s.Arity && s.Arity <= api.MaxInt }

func formOfRule(r api.Rule) bool {
	form, used := false, api.Rule{Kind: r.Kind, Heads: r.Heads, Body: r.Body}
	switch r.Kind {
	case api.RuleDisj:
		form = len(r.Heads)+len(r.Body) > 0 && formOfAll(r.Heads, formOfDisjunct)
	case api.RuleChoice:
		used.Lower, used.Upper = r.Lower, r.Upper
		form = len(r.Heads) > 0 && formOfBound(r.Lower) && formOfBound(r.Upper)
	case api.RuleWeak:
		used.Weight, used.Level, used.Tuple = r.Weight, r.Level, r.Tuple
		form = len(r.Heads) == 0 && term.Valid(r.Weight) && term.Valid(r.Level) && formOfAll(r.Tuple, term.Valid)
	}
	return form && same(r, used) && formOfAll(r.Heads, formOfHead) && formOfAll(r.Body, formOfBody)
}

func formOfAll[T any](items []T, form func(T) bool) bool {
	for _, x := range items {
		if !form(x) {
			return false
		}
	}
	return len(items) <= api.MaxElems
}

func formOfBound(t api.Term) bool { return same(t, api.Term{}) || term.Valid(t) }

func formOfDisjunct(h api.Head) bool { return len(h.Cond) == 0 }

func formOfHead(h api.Head) bool { return formOfAtom(h.Atom) && formOfAll(h.Cond, formOfLit) }

func formOfAtom(a api.Atom) bool {
	return term.Symbol(a.Pred) && len(a.Args) <= api.MaxArgs && formOfAll(a.Args, term.Valid)
}

func formOfLit(l api.Lit) bool {
	if l.Kind == api.LitAtom {
		return formOfAtom(l.Atom) && same(l, api.Lit{Kind: l.Kind, Not: l.Not, Atom: l.Atom})
	}
	return l.Kind == api.LitComp && 1 <= l.Op && l.Op <= 6 && term.Valid(l.L) && term.Valid(l.R) && same(l, api.Lit{Kind: l.Kind, Op: l.Op, L: l.L, R: l.R})
}

func formOfElem(e api.Elem) bool {
	return len(e.Tuple) > 0 && formOfAll(e.Tuple, term.Valid) && formOfAll(e.Cond, formOfLit)
}

func formOfBody(b api.Body) bool {
	switch b.Kind {
	case api.BodyLit:
		return formOfLit(b.Lit) && same(b, api.Body{Kind: b.Kind, Lit: b.Lit})
	case api.BodyCond:
		return formOfLit(b.Lit) && len(b.Cond) > 0 && formOfAll(b.Cond, formOfLit) && same(b, api.Body{Kind: b.Kind, Lit: b.Lit, Cond: b.Cond})
	case api.BodyAgg:
		bare := api.Body{Kind: b.Kind, Not: b.Not, Fun: b.Fun, Elems: b.Elems, Op: b.Op, Bound: b.Bound}
		known := 1 <= b.Fun && b.Fun <= 2 && 1 <= b.Op && b.Op <= 6 && b.Op != api.OpNe
		return known && len(b.Elems) > 0 && formOfAll(b.Elems, formOfElem) && term.Valid(b.Bound) && same(b, bare)
	}
	return false
}
