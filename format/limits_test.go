package format_test

import (
	"slices"
	"strings"
	"testing"

	"ostler/api"
	"ostler/format"
)

// P5.1: limits

// checkLimit checks that a rule is formatted at a limit, and not with one more.
func checkLimit(t *testing.T, name string, limit int, rule func(n int) api.Rule) {
	t.Helper()
	if got, e := format.Rule(rule(limit)); got == "" || e != api.OK {
		t.Errorf("%s: %.200q, error %d", name, got, e)
	}
	checkRule(t, name, rule(limit+1), "")
}

func TestLimits(t *testing.T) {
	atom, one := api.Atom{Pred: "a"}, api.Term{Kind: api.TermInt, Num: 1}
	head, lit := api.Head{Atom: atom}, api.Lit{Kind: api.LitAtom, Atom: atom}
	heads := func(n int) []api.Head { return slices.Repeat([]api.Head{head}, n) }
	lits := func(n int) []api.Lit { return slices.Repeat([]api.Lit{lit}, n) }
	terms := func(n int) []api.Term { return slices.Repeat([]api.Term{one}, n) }
	constraint := func(b api.Body, n int) api.Rule {
		return api.Rule{Kind: api.RuleDisj, Body: slices.Repeat([]api.Body{b}, n)}
	}
	aggregate := func(tuples, terms, lits int) api.Rule {
		e := api.Elem{Tuple: slices.Repeat([]api.Term{one}, terms), Cond: slices.Repeat([]api.Lit{lit}, lits)}
		return constraint(api.Body{Kind: api.BodyAgg, Fun: api.AggSum, Elems: slices.Repeat([]api.Elem{e}, tuples), Op: api.OpEq, Bound: one}, 1)
	}
	checkLimit(t, "disjuncts", api.MaxElems, func(n int) api.Rule { return api.Rule{Kind: api.RuleDisj, Heads: heads(n)} })
	checkLimit(t, "choices", api.MaxElems, func(n int) api.Rule { return api.Rule{Kind: api.RuleChoice, Heads: heads(n)} })
	checkLimit(t, "literals of a choice", api.MaxElems, func(n int) api.Rule {
		return api.Rule{Kind: api.RuleChoice, Heads: []api.Head{{Atom: atom, Cond: lits(n)}}}
	})
	checkLimit(t, "literals", api.MaxElems, func(n int) api.Rule { return constraint(api.Body{Kind: api.BodyLit, Lit: lit}, n) })
	checkLimit(t, "conditional literals", api.MaxElems, func(n int) api.Rule {
		return constraint(api.Body{Kind: api.BodyCond, Lit: lit, Cond: lits(1)}, n)
	})
	checkLimit(t, "literals of a condition", api.MaxElems, func(n int) api.Rule {
		return constraint(api.Body{Kind: api.BodyCond, Lit: lit, Cond: lits(n)}, 1)
	})
	checkLimit(t, "tuples", api.MaxElems, func(n int) api.Rule { return aggregate(n, 1, 1) })
	checkLimit(t, "terms of a tuple", api.MaxElems, func(n int) api.Rule { return aggregate(1, n, 1) })
	checkLimit(t, "literals of a tuple", api.MaxElems, func(n int) api.Rule { return aggregate(1, 1, n) })
	checkLimit(t, "terms of a cost", api.MaxElems, func(n int) api.Rule {
		return api.Rule{Kind: api.RuleWeak, Weight: one, Level: one, Tuple: terms(n)}
	})
	checkLimit(t, "arguments of an atom", api.MaxArgs, func(n int) api.Rule {
		return api.Rule{Kind: api.RuleDisj, Heads: []api.Head{{Atom: api.Atom{Pred: "p", Args: terms(n)}}}}
	})
}

// TestLimitsOfTerms checks terms at a limit and, if over is 1, beyond it.
func TestLimitsOfTerms(t *testing.T) {
	zero := api.Term{Kind: api.TermInt}
	for name, term := range map[string]func(over int) api.Term{
		"depth": func(over int) api.Term { return nested(api.MaxDepth + over) },
		"name": func(over int) api.Term {
			return api.Term{Kind: api.TermSym, Name: strings.Repeat("a", api.MaxName+over)}
		},
		"arguments": func(over int) api.Term {
			return api.Term{Kind: api.TermFun, Name: "f", Args: slices.Repeat([]api.Term{zero}, api.MaxArgs+over)}
		},
		"greatest integer": func(over int) api.Term { return api.Term{Kind: api.TermInt, Num: api.MaxInt + over} },
		"least integer":    func(over int) api.Term { return api.Term{Kind: api.TermInt, Num: -api.MaxInt - over} },
	} {
		p := api.Atom{Pred: "p"}
		checkLimit(t, name+" of an argument", 0, func(over int) api.Rule {
			return api.Rule{Kind: api.RuleDisj, Heads: []api.Head{{Atom: api.Atom{Pred: "p", Args: []api.Term{term(over)}}}}}
		})
		checkLimit(t, name+" of bounds", 0, func(over int) api.Rule {
			return api.Rule{Kind: api.RuleChoice, Heads: []api.Head{{Atom: p}}, Lower: term(over), Upper: term(over)}
		})
		checkLimit(t, name+" of a cost", 0, func(over int) api.Rule {
			return api.Rule{Kind: api.RuleWeak, Weight: term(over), Level: term(over), Tuple: []api.Term{term(over)}}
		})
		checkLimit(t, name+" of a comparison", 0, func(over int) api.Rule {
			l := api.Lit{Kind: api.LitComp, L: term(over), Op: api.OpNe, R: term(over)}
			return api.Rule{Kind: api.RuleDisj, Body: []api.Body{{Kind: api.BodyLit, Lit: l}}}
		})
	}
}

// nested returns a term of some depth.
func nested(depth int) api.Term {
	t := api.Term{Kind: api.TermInt, Num: 1}
	for range depth - 1 {
		t = api.Term{Kind: api.TermFun, Name: "f", Args: []api.Term{t}}
	}
	return t
}

// sizedTerm returns a term whose text has a number of bytes.
func sizedTerm(size int) api.Term {
	if size <= api.MaxName {
		return api.Term{Kind: api.TermSym, Name: strings.Repeat("a", size)}
	}
	t := api.Term{Kind: api.TermFun, Name: "f"}
	left := size - len("f(,,,,,,,)")
	for i := range api.MaxArgs {
		part := left / (api.MaxArgs - i)
		left -= part
		t.Args = append(t.Args, sizedTerm(part))
	}
	return t
}

// sizedAtom returns an atom whose source has a number of bytes.
func sizedAtom(size int) api.Atom {
	return api.Atom{Pred: "p", Args: []api.Term{sizedTerm(size - len("p()"))}}
}

// sizedRule returns a rule whose source has a number of bytes.
func sizedRule(size int) api.Rule {
	return api.Rule{Kind: api.RuleDisj, Heads: []api.Head{{Atom: sizedAtom(size - len("."))}}}
}

func TestLongSources(t *testing.T) {
	if got, e := format.Rule(sizedRule(api.MaxSource)); len(got) != api.MaxSource || e != api.OK {
		t.Errorf("%d bytes, error %d", len(got), e)
	}
	checkRule(t, "long", sizedRule(api.MaxSource+1), "")
	most := api.MaxSource - len(":- .")
	for _, size := range []int{most, most + 1, api.MaxSource, api.MaxSource + 1} {
		got, e := format.Lit(api.Lit{Kind: api.LitAtom, Atom: sizedAtom(size)})
		if size == most && (len(got) != size || e != api.OK) || size > most && (got != "" || e != api.ErrArg) {
			t.Errorf("literal of %d bytes: %d bytes, error %d", size, len(got), e)
		}
	}
}

// R1

// TestSharedParts formats rules that are small but have endless sources.
func TestSharedParts(t *testing.T) {
	endless := make([]api.Term, 1)
	endless[0] = api.Term{Kind: api.TermFun, Name: "f", Args: endless}
	wide := api.Term{Kind: api.TermInt}
	for range api.MaxDepth - 1 {
		wide = api.Term{Kind: api.TermFun, Name: "f", Args: slices.Repeat([]api.Term{wide}, api.MaxArgs)}
	}
	for _, x := range []api.Term{endless[0], wide} {
		a := api.Atom{Pred: "p", Args: []api.Term{x}}
		checkRule(t, "head", api.Rule{Kind: api.RuleDisj, Heads: []api.Head{{Atom: a}}}, "")
		checkRule(t, "bounds", api.Rule{Kind: api.RuleChoice, Heads: []api.Head{{Atom: api.Atom{Pred: "a"}}}, Lower: x, Upper: x}, "")
		checkRule(t, "cost", api.Rule{Kind: api.RuleWeak, Weight: x, Level: x, Tuple: []api.Term{x}}, "")
		if got, e := format.Lit(api.Lit{Kind: api.LitComp, L: x, Op: api.OpEq, R: x}); got != "" || e != api.ErrArg {
			t.Errorf("%.200q, error %d", got, e)
		}
		if got, e := format.Program(api.Prog{Consts: []api.Const{{Name: "n", Val: x}}}); got != "" || e != api.ErrArg {
			t.Errorf("%.200q, error %d", got, e)
		}
	}
}

func TestManyParts(t *testing.T) {
	terms := slices.Repeat([]api.Term{{Kind: api.TermInt}}, 1<<16)
	lits := slices.Repeat([]api.Lit{{Kind: api.LitAtom, Atom: api.Atom{Pred: "p", Args: terms}}}, 1<<16)
	heads := slices.Repeat([]api.Head{{Atom: api.Atom{Pred: "p", Args: terms}, Cond: lits}}, 1<<16)
	elems := slices.Repeat([]api.Elem{{Tuple: terms, Cond: lits}}, 1<<16)
	empty := api.Rule{Heads: make([]api.Head, 1<<20), Body: make([]api.Body, 1<<20), Tuple: make([]api.Term, 1<<20)}
	full := api.Rule{Heads: heads, Body: slices.Repeat([]api.Body{{Kind: api.BodyAgg, Lit: lits[0], Cond: lits, Fun: api.AggSum, Elems: elems, Op: api.OpEq}}, 1<<16), Tuple: terms}
	for _, r := range []api.Rule{empty, full} {
		for _, r.Kind = range []uint8{api.RuleDisj, api.RuleChoice, api.RuleWeak} {
			checkRule(t, "many parts", r, "")
		}
	}
}
