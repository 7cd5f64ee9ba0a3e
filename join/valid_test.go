package join_test

import (
	"strings"
	"testing"

	"ostler/api"
	"ostler/join"
)

// P12.1

// validTerms returns terms that are valid, some of them with variables that Flat introduces.
func validTerms() []api.Term {
	one := number(1)
	return []api.Term{
		one, number(api.MaxInt), number(-api.MaxInt), symbol("a"), symbol("_a"), symbol(strings.Repeat("a", 32)), variable("X"), variable("_"), variable("_1"), variable("X" + strings.Repeat("x", 31)),
		variable("#1"), variable("#"), variable("##"), variable("#a"), variable("# 1"), variable("#-1"), variable("#01"), variable("#\x00\xff"), variable("#" + strings.Repeat("1", 1000)),
		function("f", one), function("f", variable("#1"), variable("#"), variable("X")), function("f", ones(8)...), operation("-", variable("#1")), operation("\\", one, variable("#2")), interval(variable("#3"), one), interval(operation("+", one, one), one),
		tower(12, one), tower(12, variable("#1")), {Kind: api.TermInt, Num: 1, Args: []api.Term{}}, {Kind: api.TermVar, Name: "#1", Args: []api.Term{}},
	}
}

func TestValid(t *testing.T) {
	one := number(1)
	check := func(want bool, l ...api.Lit) {
		t.Helper()
		if join.Valid(l) != want {
			t.Errorf("%s: %v", short(litsText(l)), !want)
		}
	}
	check(true)
	check(true, litsOf(t, "p, q(1,X,f(Y+1)), not r(1..2,_), X = 1, X != Y, X < Y, X <= Y, X > Y, 1..X >= f(a)")...)
	for _, v := range validTerms() {
		check(true, positive("p", v))
		check(true, negative("p", one, one, one, one, one, one, one, v))
		check(true, positive("p"), comparison(v, api.OpEq, one), comparison(one, api.OpGe, v))
	}
	for _, v := range invalidTerms() {
		check(false, positive("p", v))
		check(false, positive("p", one, v), positive("p"))
		check(false, positive("p"), negative("p", one, one, one, one, one, one, one, v))
		check(false, comparison(v, api.OpEq, one))
		check(false, comparison(one, api.OpGe, v))
	}
	for _, pred := range []string{"", "P", "_", "_1", "not", "1", "#p", "#1", "p ", "p(1)", strings.Repeat("p", 33)} {
		check(false, positive(pred))
		check(false, negative(pred, one))
		check(false, positive("p"), positive(pred, one), positive("p"))
	}
	for _, pred := range []string{"p", "_p", "__pQ_1", "nott", strings.Repeat("p", 32)} {
		check(true, positive(pred), negative(pred, one))
	}
	check(true, positive("p", ones(8)...))
	check(false, positive("p", ones(9)...))
	check(false, negative("p", ones(1<<16)...))
}

func TestValidKinds(t *testing.T) {
	one := number(1)
	for kind := range 256 {
		l := api.Lit{Kind: uint8(kind), Atom: atom("p"), Op: api.OpEq, L: one, R: one}
		if join.Valid([]api.Lit{l}) != (l.Kind == api.LitAtom || l.Kind == api.LitComp) {
			t.Error("kind", kind)
		}
		l.Not = true
		if join.Valid([]api.Lit{positive("p"), l}) != (l.Kind == api.LitAtom) {
			t.Error("negative kind", kind)
		}
	}
	for op := range 256 {
		if join.Valid([]api.Lit{comparison(one, uint8(op), one)}) != (1 <= op && op <= 6) {
			t.Error("operator", op)
		}
	}
}

// TestUnusedFieldsDoNotMatter gives literals fields that belong to the other kind.
func TestUnusedFieldsDoNotMatter(t *testing.T) {
	s := storeOfText(t, "p(1) p(2)")
	for _, v := range append(invalidTerms(), variable("Y")) {
		p := api.Lit{Kind: api.LitAtom, Atom: atom("p", variable("X")), Op: 9, L: v, R: v}
		c := api.Lit{Kind: api.LitComp, Atom: atom("not", v, v, v, v, v, v, v, v, v), Op: api.OpGt, L: variable("X"), R: number(1)}
		l := []api.Lit{p, c}
		if !join.Valid(l) {
			t.Error("the list is valid")
		}
		checkJoin(t, l, s, nil, "X=2", api.OK)
	}
}

// P12.1: Order

// increasing returns terms in the order of terms.
func increasing() []api.Term {
	one, two := number(1), number(2)
	return []api.Term{
		number(-api.MaxInt - 1), number(-1), number(0), one, {Kind: api.TermInt, Num: 1, Name: "a"}, two, number(10), symbol(""), symbol("A"), symbol("a"), symbol("aa"), symbol("b"),
		function("f"), function("f", one), function("f", two), function("f", symbol("a")), tower(1<<16, one), tower(1<<16, two), function("g", one), function("f", one, one), function("f", ones(9)...),
		variable(""), variable("#1"), variable("X"), operation("-", one), operation("+", one, one), interval(one, one), {}, {Num: 1}, {Name: "a"}, {Args: ones(1)}, {Kind: 7}, {Kind: 255},
	}
}

func TestOrder(t *testing.T) {
	l := increasing()
	for i, a := range l {
		for k, b := range l {
			want := map[int]bool{1: i == k, 2: i != k, 3: i < k, 4: i <= k, 5: i > k, 6: i >= k}
			for op := range 256 {
				if got := join.Order(uint8(op), a, b); got != want[op] {
					t.Errorf("operator %d, terms %d and %d: %v", op, i, k, got)
				}
			}
		}
	}
	nilArgs, noArgs := symbol("a"), api.Term{Kind: api.TermSym, Name: "a", Args: []api.Term{}}
	if !join.Order(api.OpEq, nilArgs, noArgs) || join.Order(api.OpNe, nilArgs, noArgs) || !join.Order(api.OpLe, noArgs, nilArgs) {
		t.Error("a nil slice equals an empty one")
	}
}
