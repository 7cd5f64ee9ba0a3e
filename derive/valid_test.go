package derive_test

import (
	"strconv"
	"strings"
	"testing"

	"ostler/api"
	"ostler/derive"
)

// P13.1: Valid

// checkValid checks what Valid says of a rule, and that the other functions agree.
func checkValid(t *testing.T, name string, r api.Rule, want bool) {
	t.Helper()
	p := api.Prog{Rules: []api.Rule{r}}
	if derive.Valid(p) != want {
		t.Errorf("%s: %v", name, !want)
	}
	p.Rules = []api.Rule{{Kind: api.RuleDisj}, r, {Kind: api.RuleDisj}}
	if derive.Valid(p) != want {
		t.Errorf("%s, among other rules: %v", name, !want)
	}
	if !want && derive.Safe(r) {
		t.Error(name, "is safe")
	}
	possible, certain, e := derive.Derive(p)
	if (e == api.ErrArg) == want || !want && (possible != nil || certain != nil) {
		t.Errorf("%s: error %d", name, e)
	}
}

func TestValid(t *testing.T) {
	for _, src := range []string{
		"p.", ":- p.", "{ p }.", ":~. [1]", "p | q :- not p.", "p(X) :- q(Y).", "p :- X < Y.", "p(_) :- q(_).", "p(H_1) :- q(H_12,H_X), r(H_) : s(H_a).", "p(X+1) :- p(X).", "p(1..2,f(X..Y),1/0).",
		"X { p(X) : Y < Z; q } 1..2 :- r : s(1..2), not t(X), 1 < 2; not #count { X,f(Y),_ : p(X), Y != X; 1 } >= X.", ":~ not p(X). [Y@Z,_,f(1..2)]",
		"p(1,2,3,4,5,6,7,8).", "p(F11:XG11:).", "p :- q(F11:XG11:), F11:XG11: = 1, r(F11:XG11:) : r(F11:XG11:).", ":- #sum { F11:XG11: : q(F11:XG11:) } > F11:XG11:.", "F11:XG11: { p(F11:XG11:) } F11:1G11:.", ":~. [F11:XG11:@F11:XG11:,F11:XG11:]",
		strings.Repeat("p", 32) + "(" + strings.Repeat("_", 31) + "X).",
	} {
		checkValid(t, src, ruleOf(t, src), true)
	}
	if !derive.Valid(api.Prog{}) || !derive.Valid(api.Prog{Rules: []api.Rule{}}) {
		t.Error("a program without rules")
	}
	for kind := range 256 {
		checkValid(t, "a rule of any kind", full(t, uint8(kind)), 1 <= kind && kind <= 3)
	}
}

// TestValidIgnoresOtherFields checks that what a program, a rule, a body element or a literal does not use does not matter.
func TestValidIgnoresOtherFields(t *testing.T) {
	wrong := api.Term{Kind: 99}
	p := api.Prog{Consts: []api.Const{{Name: "#", Val: wrong}}, Shows: []api.Sig{{Arity: -1}}}
	if !derive.Valid(p) {
		t.Error("constants and shown predicates")
	}
	used := api.Rule{Kind: api.RuleDisj, Lower: wrong, Upper: wrong, Weight: wrong, Level: wrong, Tuple: []api.Term{wrong}}
	used.Heads = []api.Head{{Atom: atom("p"), Cond: litsOf(t, "q(X), X < 2")}}
	checkValid(t, "a disjunction", used, true)
	used.Kind, used.Lower, used.Upper = api.RuleChoice, api.Term{Num: 1, Args: ones(1)}, api.Term{Name: "X"}
	checkValid(t, "a choice", used, true)
	checkValid(t, "a weak constraint", api.Rule{Kind: api.RuleWeak, Lower: wrong, Upper: wrong, Weight: number(1), Level: number(1)}, true)
	wrongLit := api.Lit{Kind: 9}
	for name, b := range map[string]api.Body{
		"a literal":               {Kind: api.BodyLit, Lit: positive("p"), Cond: []api.Lit{wrongLit}, Not: true, Fun: 9, Op: 9, Bound: wrong, Elems: []api.Elem{{Tuple: []api.Term{wrong}, Cond: []api.Lit{wrongLit}}}},
		"a conditional literal":   {Kind: api.BodyCond, Lit: positive("p"), Not: true, Fun: 9, Op: 9, Bound: wrong, Elems: []api.Elem{{Tuple: []api.Term{wrong}, Cond: []api.Lit{wrongLit}}}},
		"an aggregate":            {Kind: api.BodyAgg, Lit: wrongLit, Cond: []api.Lit{wrongLit}, Fun: 9, Op: 9, Bound: number(1), Elems: []api.Elem{{}}},
		"other fields of an atom": {Kind: api.BodyLit, Lit: api.Lit{Kind: api.LitAtom, Atom: atom("p"), Op: 9, L: wrong, R: wrong}},
		"those of a comparison":   {Kind: api.BodyLit, Lit: api.Lit{Kind: api.LitComp, L: number(1), Op: api.OpLt, R: number(2), Atom: atom("#", wrong)}},
	} {
		checkValid(t, name, api.Rule{Kind: api.RuleDisj, Body: []api.Body{b}}, true)
	}
}

// invalidTerms returns terms that are not valid.
func invalidTerms() []api.Term {
	return []api.Term{
		{}, {Kind: 7}, {Kind: 255}, number(api.MaxInt + 1), {Kind: api.TermInt, Name: "a"}, {Kind: api.TermSym, Name: "X"}, {Kind: api.TermSym, Name: "#1"}, variable("a"), variable(""), variable("X#"), {Kind: api.TermVar, Name: "#1", Num: 1},
		function("f"), function("#f", number(1)), function("f", api.Term{}), function("f", ones(9)...), tower(12, variable("X")), tower(12, variable("#1")), tower(1<<16, number(1)), {Kind: api.TermOp, Name: "+", Args: ones(1)}, {Kind: api.TermRange, Args: ones(1)},
	}
}

// invalidLits returns literals that are not valid.
func invalidLits() []api.Lit {
	one := number(1)
	l := []api.Lit{
		{}, {Kind: 3, Atom: atom("p")}, {Kind: 0, Atom: atom("p")}, {Kind: api.LitComp, L: one, R: one}, {Kind: api.LitComp, Op: 7, L: one, R: one}, {Kind: api.LitComp, Not: true, Op: 1, L: one, R: one},
		positive(""), positive("P"), positive("not"), positive("#1"), positive(strings.Repeat("p", 33)), positive("p", ones(9)...), {Kind: api.LitAtom, Not: true, Atom: atom("P")},
	}
	for _, x := range invalidTerms() {
		l = append(l, positive("p", one, x), api.Lit{Kind: api.LitAtom, Not: true, Atom: atom("p", x)}, comparison(x, api.OpEq, one), comparison(one, api.OpEq, x))
	}
	return l
}

func TestInvalidHeads(t *testing.T) {
	for i, l := range invalidLits() {
		for kind := api.RuleDisj; kind <= api.RuleWeak; kind++ {
			r := api.Rule{Kind: kind, Weight: number(1), Level: number(1), Heads: []api.Head{{Atom: atom("p")}, {Atom: atom("q"), Cond: []api.Lit{positive("p"), l}}}}
			checkValid(t, "a condition "+strconv.Itoa(i), r, false)
			if l.Kind == api.LitAtom {
				r.Heads[1] = api.Head{Atom: l.Atom}
				checkValid(t, "a head "+strconv.Itoa(i), r, false)
			}
		}
	}
}

func TestInvalidBodies(t *testing.T) {
	with := func(b api.Body) api.Rule {
		return api.Rule{Kind: api.RuleDisj, Body: []api.Body{{Kind: api.BodyLit, Lit: positive("p")}, b}}
	}
	for kind := range 256 {
		valid := api.Body{Kind: uint8(kind), Lit: positive("p"), Bound: number(1)}
		checkValid(t, "a body element", with(valid), 1 <= kind && kind <= 3)
	}
	for _, l := range invalidLits() {
		two := []api.Lit{positive("p"), l}
		checkValid(t, "a literal", with(api.Body{Kind: api.BodyLit, Lit: l}), false)
		checkValid(t, "a conditional literal", with(api.Body{Kind: api.BodyCond, Lit: l}), false)
		checkValid(t, "its condition", with(api.Body{Kind: api.BodyCond, Lit: positive("p"), Cond: two}), false)
		checkValid(t, "the condition of an element", with(api.Body{Kind: api.BodyAgg, Bound: number(1), Elems: []api.Elem{{}, {Cond: two}}}), false)
	}
}

func TestInvalidTerms(t *testing.T) {
	one := number(1)
	for i, x := range invalidTerms() {
		agg := func(b api.Body) api.Rule {
			b.Kind = api.BodyAgg
			return api.Rule{Kind: api.RuleDisj, Body: []api.Body{b}}
		}
		checkValid(t, "the bound of an aggregate", agg(api.Body{Bound: x}), false)
		checkValid(t, "the tuple of an element", agg(api.Body{Bound: one, Elems: []api.Elem{{}, {Tuple: []api.Term{one, x}}}}), false)
		if x.Kind != 0 {
			checkValid(t, "a lower bound", api.Rule{Kind: api.RuleChoice, Lower: x}, false)
			checkValid(t, "an upper bound", api.Rule{Kind: api.RuleChoice, Upper: x}, false)
		}
		checkValid(t, "a weight", api.Rule{Kind: api.RuleWeak, Weight: x, Level: one}, false)
		checkValid(t, "a level", api.Rule{Kind: api.RuleWeak, Weight: one, Level: x}, false)
		checkValid(t, "a tuple", api.Rule{Kind: api.RuleWeak, Weight: one, Level: one, Tuple: []api.Term{one, x}}, false)
		if t.Failed() {
			t.Fatal("term", i)
		}
	}
}
