package derive_test

import (
	"reflect"
	"testing"

	"ostler/api"
	"ostler/derive"
)

// P13.1: Premises

func checkPremises(t *testing.T, name string, r api.Rule, want string) {
	t.Helper()
	if got := litsText(derive.Premises(r)); got != want {
		t.Errorf("%s: %s, want %s", name, got, want)
	}
}

func TestPremises(t *testing.T) {
	for src, want := range map[string]string{
		"p.":                   "not p",
		"p(X) :- q(X).":        "q(X), not p(X)",
		"p :- q, not p, not q": "q, not p, not q, not p",
		"p(X,1..2) | q | p(X+1) :- not r(X), X = 1..3, X < 2": "not r(X), X=1..3, X<2, not p(X,1..2), not q, not p(X+1)",
		"p(_) :- q(_), H_1 = 1":                               "q(_), H_1=1, not p(_)",
		":- q(X), r":                                          "q(X), r",
		"{ p(X) : q(X), r; t(Y) } :- s":                       "s",
		"1 { p } :- s":                                        "s, not w(1)",
		"{ p } X :- s(X)":                                     "s(X), not w(X)",
		"X-1 { p } f(1..Y) :- s(X,Y)":                         "s(X,Y), not w(X-1), not w(f(1..Y))",
		"p(Y) :- #count { X : p(X) } > Y, q(Y), not #sum { 1 : t } = 1..2, r : s(Z); t": "q(Y), t, not p(Y), not w(Y), not w(1..2)",
		":- #count { X : p(X) } > Y, q(Y)":                                              "q(Y), not w(Y)",
		"X { p } Y :- #count { 1 } > Z, s(X,Y,Z)":                                       "s(X,Y,Z), not w(X), not w(Y), not w(Z)",
		"p(X) :- q(X) : r(X)":                                                           "not p(X)",
		"p(X) :- w(X), not w(X)":                                                        "w(X), not w(X), not p(X)",
		":~ q(X,Y). [X@Y, X+1, f(Y), X+1]":                                              "q(X,Y), not w(X), not w(Y), not w(X+1), not w(f(Y)), not w(X+1)",
		":~. [1]":                                                                       "not w(1), not w(0)",
		":~ #sum { 1 } < Z, z(Z), r : s; not t. [5@6,7..8]":                             "z(Z), not t, not w(Z), not w(5), not w(6), not w(7..8)",
		"#minimize { X@1,Y : p(X,Y), not q(X) }":                                        "p(X,Y), not q(X), not w(X), not w(1), not w(Y)",
		"p :- #count { 1 } > 1, q, #count { 1 } > 2, r":                                 "q, r, not p, not w(1), not w(2)",
	} {
		if src[len(src)-1] != '.' && src[len(src)-1] != ']' {
			src += "."
		}
		checkPremises(t, src, ruleOf(t, src), want)
	}
}

// full returns a rule that has all fields, and its Kind.
func full(t *testing.T, kind uint8) api.Rule {
	r := ruleOf(t, "1 { p(X) : q(X); r } 2 :- s(X), t : u; #count { X : v } > 3, not x.")
	w := ruleOf(t, ":~. [4@5,6,7]")
	r.Kind, r.Weight, r.Level, r.Tuple = kind, w.Weight, w.Level, w.Tuple
	return r
}

func TestPremisesOfAnyKind(t *testing.T) {
	for kind, want := range map[uint8]string{
		api.RuleDisj:   "s(X), not x, not p(X), not r, not w(3)",
		api.RuleChoice: "s(X), not x, not w(1), not w(2), not w(3)",
		api.RuleWeak:   "s(X), not x, not w(3), not w(4), not w(5), not w(6), not w(7)",
		0:              "s(X), not x, not w(3)",
		4:              "s(X), not x, not w(3)",
		255:            "s(X), not x, not w(3)",
	} {
		checkPremises(t, "a rule with all fields", full(t, kind), want)
	}
	if l := derive.Premises(api.Rule{}); len(l) != 0 {
		t.Error(l)
	}
}

// TestPremisesOfInvalidRules checks that what is not valid is among the premises, too.
func TestPremisesOfInvalidRules(t *testing.T) {
	odd := api.Lit{Kind: 9, Not: true, Op: 77, L: variable(""), R: api.Term{Kind: 8, Num: 3}, Atom: atom("#", api.Term{Name: "a"})}
	mixed := api.Lit{Kind: api.LitAtom, Op: api.OpLt, L: variable("X"), R: variable("Y"), Atom: atom("p", variable("Z"))}
	wrong := api.Term{Kind: 99, Num: -1, Name: "Q", Args: ones(9)}
	r := api.Rule{
		Kind:  api.RuleDisj,
		Heads: []api.Head{{Atom: atom("Q", wrong)}, {}},
		Body:  []api.Body{{Kind: api.BodyLit, Lit: odd, Bound: number(4)}, {Kind: 0, Lit: mixed}, {Kind: api.BodyAgg, Lit: odd}, {Kind: 4, Lit: odd, Bound: number(5)}, {Kind: api.BodyLit, Lit: mixed}, {Kind: api.BodyAgg, Bound: wrong}, {Kind: api.BodyCond, Lit: odd}},
	}
	no := func(a api.Atom) api.Lit { return api.Lit{Kind: api.LitAtom, Not: true, Atom: a} }
	want := []api.Lit{odd, mixed, no(atom("Q", wrong)), no(api.Atom{}), no(atom("w", api.Term{})), no(atom("w", wrong))}
	if got := derive.Premises(r); !reflect.DeepEqual(got, want) {
		t.Errorf("%+v, want %+v", got, want)
	}
	for _, zero := range []api.Term{{}, {Num: 3, Name: "X", Args: ones(1)}} {
		if l := derive.Premises(api.Rule{Kind: api.RuleChoice, Lower: zero, Upper: zero}); len(l) != 0 {
			t.Errorf("bounds of kind 0: %+v", l)
		}
	}
	if got := derive.Premises(api.Rule{Kind: api.RuleChoice, Lower: wrong, Upper: api.Term{Kind: 255}}); !reflect.DeepEqual(got, []api.Lit{no(atom("w", wrong)), no(atom("w", api.Term{Kind: 255}))}) {
		t.Errorf("%+v", got)
	}
	if got := derive.Premises(api.Rule{Kind: api.RuleWeak}); !reflect.DeepEqual(got, []api.Lit{no(atom("w", api.Term{})), no(atom("w", api.Term{}))}) {
		t.Errorf("%+v", got)
	}
}
