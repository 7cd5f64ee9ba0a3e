package store_test

import (
	"slices"
	"strings"
	"testing"

	"ostler/api"
	"ostler/store"
)

// P11.1

func TestValid(t *testing.T) {
	long := strings.Repeat("p", 32)
	for _, a := range []api.Atom{
		atom("p"), atom("_p"), atom("__pQ_1"), atom("nott"), atom("no"), atom("w"), atom(long),
		atom("p", number(0)), atom("p", number(api.MaxInt), number(-api.MaxInt)), atom("p", symbol("a"), symbol(long), symbol("_a")),
		atom("p", function("p", symbol("p")), function("f", ones(8)...)), atom("p", tower(12, symbol("a"))), atom("p", ones(8)...),
		{Pred: "p", Args: []api.Term{}}, atom("p", api.Term{Kind: api.TermInt, Num: 1, Args: []api.Term{}}),
	} {
		if !store.Valid(a) {
			t.Errorf("%s is a ground atom", textOf(a))
		}
	}
	for i, a := range notGround() {
		if store.Valid(a) {
			t.Errorf("%d: %.200q is not a ground atom", i, textOf(a))
		}
	}
	if store.Valid(api.Atom{}) {
		t.Error("a zero atom is not a ground atom")
	}
}

// ordered is an increasing list of atoms, of which many are not ground atoms.
func ordered() []api.Atom {
	one, two := number(1), number(2)
	return []api.Atom{
		{}, atom("", one), atom("", one, one), atom("\x00"), atom("B"), atom("B", one), atom("_"),
		atom("a"), atom("a", number(-7)), atom("a", one), atom("a", api.Term{Kind: api.TermInt, Num: 1, Name: "a"}), atom("a", number(9)), atom("a", number(10)), atom("a", symbol("a")), atom("a", symbol("aa")), atom("a", symbol("b")),
		atom("a", function("f", one)), atom("a", function("f", two)), atom("a", function("g", one)), atom("a", function("f", one, one)), atom("a", variable("X")), atom("a", operation("-", one)), atom("a", operation("+", one, one)), atom("a", interval(one, two)), atom("a", api.Term{}), atom("a", api.Term{Kind: 7}),
		atom("a", one, one), atom("a", one, two), atom("a", one, symbol("a")), atom("a", two, one), atom("a", symbol("a"), one), atom("a", api.Term{}, one),
		atom("a", ones(3)...), atom("a", ones(9)...), atom("a", append(ones(8), two)...), atom("a", tower(1<<16, one), one, one, one, one, one, one, one, one), atom("a", tower(1<<16, two), one, one, one, one, one, one, one, one),
		atom("a\x00"), atom("a "), atom("a(1)"), atom("aB"), atom("aa"), atom("ab"), atom("b"), atom("not"), atom("\xff"),
	}
}

func TestCompare(t *testing.T) {
	l := ordered()
	for i, a := range l {
		for k, b := range l {
			want := 0
			if i < k {
				want = -1
			} else if i > k {
				want = 1
			}
			if got := store.Compare(a, b); got != want {
				t.Errorf("%.100q with %.100q: %d, want %d", textOf(a), textOf(b), got, want)
			}
		}
	}
	empty := api.Atom{Pred: "a", Args: []api.Term{}}
	if store.Compare(empty, atom("a")) != 0 || store.Compare(atom("a"), empty) != 0 {
		t.Error("a nil slice equals an empty one")
	}
	inner := atom("a", api.Term{Kind: api.TermInt, Num: 1, Args: []api.Term{}})
	if store.Compare(inner, atom("a", number(1))) != 0 || store.Compare(atom("a", number(1)), inner) != 0 {
		t.Error("also in arguments")
	}
}

func TestCompareRandomAtoms(t *testing.T) {
	g := newRandom(1)
	for range 20000 {
		a, b := g.atom(), g.atom()
		if got, want := store.Compare(a, b), order(a, b); got != want {
			t.Fatalf("%q with %q: %d, want %d", textOf(a), textOf(b), got, want)
		}
	}
}

func TestArgumentsOfAtomFunctionsStay(t *testing.T) {
	memory := append(ones(2), symbol("spare"))
	inner := append(ones(1), symbol("spare"))
	memory[0] = api.Term{Kind: api.TermFun, Name: "f", Args: inner[:1]}
	a := api.Atom{Pred: "p", Args: memory[:2]}
	store.Valid(a)
	store.Compare(a, a)
	store.New().Add(a)
	store.New().Has(a)
	store.New().Find(predicate(a), 0, memory[0])
	want := []api.Term{function("f", number(1)), number(1), symbol("spare")}
	if !slices.EqualFunc(memory, want, equalTerms) || !equalTerms(inner[1], symbol("spare")) {
		t.Error("an argument changed", memory, inner)
	}
}
