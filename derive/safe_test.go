package derive_test

import (
	"strings"
	"testing"

	"ostler/api"
	"ostler/derive"
	"ostler/join"
)

// P13.1: Safe

func checkSafe(t *testing.T, src string, want bool) {
	t.Helper()
	r := ruleOf(t, src)
	if derive.Safe(r) != want {
		t.Errorf("%s: %v", src, !want)
	}
	for _, p := range []api.Prog{{Rules: []api.Rule{r}}, {Rules: []api.Rule{ruleOf(t, "b."), r}}} {
		// A rule with an unbound variable in a head has no ranks.
		if _, _, e := derive.Derive(p); want && e == join.ErrUnsafe || !want && e != join.ErrUnsafe && e != 100 {
			t.Errorf("%s: error %d", src, e)
		}
	}
}

func TestSafe(t *testing.T) {
	for _, src := range []string{
		"p.", ":- p.", "{ p }.", ":~. [1]", "p(X) :- d(X).", "p(X) | q(Y) :- d(X,Y).", "p(X,Y+1) :- d(f(X,g(Y))).", "p(1..3,2+1).", ":- d(X), not q(X+1).", ":- X = 1..3, Y = X+1, not q(Y).", ":- Y = X+1, X = 3.", "p(_) :- d(_).",
		":- d(X+1,X).", ":- d(X..Y), X = 1, d(Y).", "p :- d(X), X < 2.", "p(Y) :- f(Y) = f(2), Y = 1.",
		"p :- q(X) : d(X).", "p :- d(X), q(X,Y) : d(Y).", "p :- q(X+1) : d(X), not d(X-1).", "p :- X < Y : d(X,Y).", "p :- 1 < 2 : d(X).", "p :- q : d(X).", "p :- q(Y) : Y = X; d(X).", "p :- q(X) : d(X); r(X) : d(X).", "p :- not q(1..2) : d(1..2).", "p :- q(Y) : Y = 1..X; d(X+1), X = 2.",
		"{ p(X) : d(X) }.", "{ p(X,Y) : d(X) } :- d(Y).", "{ p(X+1) : X = 1..3; q(Y) : d(Y), not d(Y+1) }.", "X { p } Y :- d(X,Y).", "{ p(Y) } X+1 :- d(X), Y = X.", "{ p(X) : d(Y), X = Y-1 }.",
		":- #count { X : d(X) } > 1.", ":- #count { X,Y : d(X) } > Y, d(Y).", ":- not #sum { X+1,f(Y) : d(X), Y = X..3, not d(Y) } = 1..2.", ":- #count { 1 : d(X); X : d(X) } < 2.", ":- #count { 1 } < X, X = 3.",
		":~ d(X,Y,Z), _1 = 3. [X@Y,Z+1,_1]", ":~ d(X). [X+1@X,f(X)]",
		"p(H_1) :- d(H_1).", "p(H_1,X+1) :- d(H_1,X).",
	} {
		checkSafe(t, src, true)
	}
	for _, src := range []string{
		"p(X).", "p(X) :- d(Y).", "p(X) | q(Y) :- d(X).", "p(X+1).", "p(X) :- d(X+1).", "p(X) :- not d(X).", ":- not d(X).", ":- X < 2.", ":- d(X), Y < X.", ":- X = Y.", ":- X = Y+1, Y = X-1.", ":- f(X) = f(1).", ":- d(1..X).", "p(_) :- not d(_).", ":- X != 2.", "p(1..X).",
		"p :- q(X), r(Y) : d(X).", "p :- q(X) : d(Y).", "p :- q(X) : not d(X).", "p :- X < Y : d(X).", "p :- q : X < 2.", "p :- q : d(X), not d(Y).", "p :- q(X) : d(X+1).", "p :- q(X+1) : 1 < 2.", "p :- q(X) : d(X); r(X) : 1 < 2.", "p :- not q(X) : d(Y).",
		"p(X) :- q : d(X).", "p(X) :- #count { X : d(X) } > 1.", "p(X) :- #count { 1 : d(1) } = X.", "{ p(X) : d(X); q(X) }.",
		"{ p(X) }.", "{ p(X) : d(Y) }.", "{ p(X) : not d(X) }.", "{ p : not d(X) }.", "{ p : d(X+1) }.", "{ p(X+1) : X < 3 }.", "X { p : d(X) }.", "{ p } X+1.", "{ p : d(1); q(X) : d(1) }.",
		":- #count { X } > 1.", ":- #count { X : d(Y) } > 1.", ":- #count { 1 : not d(X) } > 1.", ":- #count { 1 : d(X); X } > 1.", ":- #count { 1 : X < 2 } > 1.", ":- #count { X : d(X) } > Y.", ":- #count { X+1 : d(X+1) } > 1.", ":- #count { 1,f(X,1..Y) : d(X) } > 1.",
		":~. [X]", ":~ d(X). [1@Y]", ":~ d(X). [X@1,Y]", ":~ d(X+1). [X]", ":~ not d(X). [1]",
	} {
		checkSafe(t, src, false)
	}
}

// TestSafeIgnoresHeadConditions checks that the condition of a head matters in a choice only.
func TestSafeIgnoresHeadConditions(t *testing.T) {
	for kind := api.RuleDisj; kind <= api.RuleWeak; kind++ {
		r := api.Rule{Kind: kind, Weight: number(1), Level: number(1), Heads: []api.Head{{Atom: atom("p"), Cond: litsOf(t, "not d(X)")}}}
		if derive.Safe(r) != (kind != api.RuleChoice) {
			t.Error(kind)
		}
		r.Heads = []api.Head{{Atom: atom("p", variable("X")), Cond: litsOf(t, "d(X)")}}
		if derive.Safe(r) != (kind != api.RuleDisj) {
			t.Error(kind)
		}
	}
}

// TestSafeNeedsNoTime checks rules whose lists have many bindings, too many or too deep ones: they are safe.
func TestSafeNeedsNoTime(t *testing.T) {
	var wide []string
	for i := range 20 {
		wide = append(wide, "V"+string(rune('A'+i))+" = 1..1000")
	}
	list := strings.Join(wide, ", ")
	for _, src := range []string{
		"p :- " + list + ".", "p(VA,VB,VC,VD) :- " + list + ".", "p :- q : " + list + ".", "{ p : " + list + " }.", ":- #count { VA,VB : " + list + " } > 1.", "p :- X = 1..1001.", "p(1..1001).", "p(1..1000,1..1000).",
		"p :- X = F11:1G11:, Y = f(X).", "p :- q(Y) : X = F11:1G11:, Y = f(X).", "p(f(X)) :- X = F11:1G11:.",
	} {
		if !derive.Safe(ruleOf(t, src)) {
			t.Error(short(src))
		}
	}
	for _, src := range []string{"p :- " + list + ", not q(W).", "p :- q(W) : " + list + ".", "{ p(W) : " + list + " }.", ":- #count { W : " + list + " } > 1."} {
		if derive.Safe(ruleOf(t, src)) {
			t.Error(short(src))
		}
	}
}
