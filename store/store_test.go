package store_test

import (
	"math"
	"slices"
	"strings"
	"testing"

	"ostler/api"
	"ostler/store"
)

// P11.2

func TestNew(t *testing.T) {
	s, o := store.New(), store.New()
	check(t, "a new store", s, nil)
	checkAdd(t, s, atom("p"), true, api.OK)
	check(t, "a store", s, []api.Atom{atom("p")})
	check(t, "another store", o, nil)
}

func TestAdd(t *testing.T) {
	s := store.New()
	var l []api.Atom
	for _, a := range atomsOf(t, "p p(1) p(a) p(p) p(1,a) p(a,1) q p(f(1)) p(f(1),1) p(f(1,1)) p(-1) p(11) p(1,1) pp _p f(1) f(f(1)) p(f(a,g(b)),2)") {
		checkAdd(t, s, a, true, api.OK)
		l = append(l, a)
		check(t, "a store", s, l)
		for _, b := range l {
			checkAdd(t, s, b, false, api.OK)
		}
		check(t, "a store to which its atoms were added again", s, l)
	}
	checkAdd(t, s, api.Atom{Pred: "p", Args: []api.Term{}}, false, api.OK)
	checkAdd(t, s, atom("p", api.Term{Kind: api.TermInt, Num: 1, Args: []api.Term{}}), false, api.OK)
	for _, a := range notGround() {
		checkAdd(t, s, a, false, api.ErrArg)
	}
	check(t, "a store to which no ground atom was added", s, l)
}

func TestAddExtremes(t *testing.T) {
	long := strings.Repeat("p", 32)
	l := []api.Atom{
		atom(long), atom(long, symbol(long)), atom(long[1:]), atom("p", number(api.MaxInt)), atom("p", number(-api.MaxInt)),
		atom("p", tower(12, number(1))), atom("p", tower(12, number(2))), atom("p", tower(11, number(1))), atom("p", ones(8)...), atom("p", ones(7)...),
		atom("p", function("f", ones(8)...)), atom("p", slices.Repeat([]api.Term{tower(12, symbol("a"))}, 8)...),
	}
	check(t, "a store", storeOf(t, l...), l)
}

func TestLimit(t *testing.T) {
	l := numbered(api.MaxAtoms)
	s := storeOf(t, l...)
	for _, a := range []api.Atom{atom("p", number(api.MaxAtoms)), atom("p"), atom("q"), atom("p", number(0), number(0))} {
		checkAdd(t, s, a, false, api.ErrMany)
		if s.Has(a) {
			t.Errorf("a full store has %s", textOf(a))
		}
	}
	checkAdd(t, s, l[0], false, api.OK)
	checkAdd(t, s, l[api.MaxAtoms-1], false, api.OK)
	checkAdd(t, s, atom("P"), false, api.ErrArg)
	checkAdd(t, s, atom("p", variable("X")), false, api.ErrArg)
	check(t, "a full store", s, l)
	c := s.Copy()
	check(t, "a copy of a full store", c, l)
	checkAdd(t, c, atom("q"), false, api.ErrMany)
	if !s.Equal(c) || !c.Equal(s) {
		t.Error("a full store does not equal its copy")
	}
	check(t, "a store with room for an atom", storeOf(t, l[1:]...), l[1:])
}

func TestHas(t *testing.T) {
	s := storeOfText(t, "p p(1) p(1,a) p(f(1)) p(2) q(a)")
	for _, a := range atomsOf(t, "q p(a) p(a,1) p(1,1) p(1,a,a) p(1,2) p(f) p(f(2)) p(f(1),f(1)) p(f(f(1))) p(-1) p(12) q(1) pp f(1) f a") {
		if s.Has(a) {
			t.Errorf("the store has %s", textOf(a))
		}
	}
	for i, a := range notGround() {
		if s.Has(a) {
			t.Errorf("%d: the store has %.200q", i, textOf(a))
		}
	}
	if s.Has(api.Atom{}) || !s.Has(api.Atom{Pred: "p", Args: []api.Term{}}) {
		t.Error("the store has a zero atom, or lacks p")
	}
}

// P11.3

func TestSigs(t *testing.T) {
	s := storeOfText(t, "q(1) b(1,2) p(3) b a(1) p(1) b(7,7) _p aa p(1,1) a(1,1) q(0)")
	want := []api.Sig{sig("_p", 0), sig("a", 1), sig("a", 2), sig("aa", 0), sig("b", 0), sig("b", 2), sig("p", 1), sig("p", 2), sig("q", 1)}
	if got := s.Sigs(); !slices.Equal(got, want) {
		t.Error(got)
	}
}

func TestAll(t *testing.T) {
	s := storeOfText(t, "q(1) p(3,3) p(2) p q(0) p(1) q(f(0)) p(10) p(9) pp(1)")
	for _, c := range []struct {
		g    api.Sig
		want string
	}{
		{sig("p", 1), "p(2) p(1) p(10) p(9)"}, {sig("q", 1), "q(1) q(0) q(f(0))"}, {sig("p", 0), "p"}, {sig("p", 2), "p(3,3)"}, {sig("pp", 1), "pp(1)"},
		{sig("p", 3), ""}, {sig("q", 0), ""}, {sig("pp", 0), ""}, {sig("r", 1), ""}, {sig("", 0), ""}, {sig("p", -1), ""}, {sig("p(1)", 0), ""}, {sig("p(1)", 1), ""}, {sig("p", math.MaxInt), ""}, {sig("P", 1), ""}, {sig("not", 0), ""},
	} {
		checkText(t, "All", s.All(c.g), c.want)
	}
}

func TestFind(t *testing.T) {
	s := storeOfText(t, "p(2,a) p(1,a) q(1) p(2,f(a)) p(1,f(1)) p p(2,b) p(f(1),f(a)) p(f(1),a) p(1,2,a) p(11,a)")
	two, one := sig("p", 2), number(1)
	for _, c := range []struct {
		g    api.Sig
		arg  int
		v    api.Term
		want string
	}{
		{two, 0, number(2), "p(2,a) p(2,f(a)) p(2,b)"}, {two, 0, one, "p(1,a) p(1,f(1))"}, {two, 1, symbol("a"), "p(2,a) p(1,a) p(f(1),a) p(11,a)"},
		{two, 1, function("f", symbol("a")), "p(2,f(a)) p(f(1),f(a))"}, {two, 0, function("f", one), "p(f(1),f(a)) p(f(1),a)"}, {two, 1, function("f", one), "p(1,f(1))"},
		{sig("q", 1), 0, one, "q(1)"}, {sig("p", 3), 2, symbol("a"), "p(1,2,a)"}, {sig("p", 3), 1, number(2), "p(1,2,a)"}, {two, 0, api.Term{Kind: api.TermInt, Num: 1, Args: []api.Term{}}, "p(1,a) p(1,f(1))"},
		{two, 1, number(2), ""}, {two, 0, symbol("a"), ""}, {two, 0, function("f", number(2)), ""}, {two, 1, function("f", symbol("a"), symbol("a")), ""}, {two, 0, number(-1), ""}, {two, 1, symbol("f"), ""},
		{two, 2, one, ""}, {two, 2, symbol("a"), ""}, {two, -1, one, ""}, {two, math.MaxInt, one, ""}, {two, math.MinInt, one, ""}, {sig("p", 3), 3, symbol("a"), ""},
		{sig("p", 0), 0, one, ""}, {sig("p", 0), -1, one, ""}, {sig("p", 1), 0, one, ""}, {sig("r", 2), 0, one, ""}, {sig("q", 2), 0, one, ""}, {sig("p", -1), 0, one, ""}, {sig("", 2), 0, one, ""}, {sig("p", 12), 11, symbol("a"), ""},
	} {
		checkText(t, "Find", s.Find(c.g, c.arg, c.v), c.want)
	}
}

func TestFindOtherTerms(t *testing.T) {
	s := storeOf(t, atom("p", number(1)), atom("p", number(-1)), atom("p", number(2)), atom("p", symbol("a")), atom("p", function("f", number(-1))), atom("p", function("f", number(1))), atom("p"))
	for _, v := range append(invalidTerms(), notValues()...) {
		checkText(t, "Find", s.Find(sig("p", 1), 0, v), "")
		checkText(t, "Find", s.Find(sig("p", 0), 0, v), "")
	}
}

func TestSorted(t *testing.T) {
	s := storeOfText(t, "q p(b) p(10) pp p(f(1,1)) p(1,1) p p(9) b(7) p(a) p(-3) p(g(1)) p(0,5) p(f(2)) _p p(a,0) p(1,f(0)) p(f(10)) p(f(9))")
	checkText(t, "Sorted", s.Sorted(), "_p b(7) p p(-3) p(9) p(10) p(a) p(b) p(f(2)) p(f(9)) p(f(10)) p(g(1)) p(f(1,1)) p(0,5) p(1,1) p(1,f(0)) p(a,0) pp q")
	if a, e := s.At(0); textOf(a) != "q" || e != api.OK {
		t.Error("sorting changes the numbers of the atoms", textOf(a), e)
	}
}

// P11.4

func TestCopy(t *testing.T) {
	for _, src := range []string{"", "p", "q p(2) p(1) q(1,f(a)) b a"} {
		s, l := storeOfText(t, src), atomsOf(t, src)
		c := s.Copy()
		check(t, "a copy", c, l)
		check(t, "a copy of a copy", c.Copy(), l)
		if c == s || !s.Equal(c) || !c.Equal(s) {
			t.Error("a copy is its original, or does not equal it")
		}
		if len(l) > 0 {
			checkAdd(t, c, l[0], false, api.OK)
		}
		checkAdd(t, c, atom("new"), true, api.OK)
		check(t, "a copy with one more atom", c, append(slices.Clip(l), atom("new")))
		check(t, "the original", s, l)
	}
}

func TestEqual(t *testing.T) {
	for _, c := range []struct {
		a, b string
		want bool
	}{
		{"", "", true}, {"p", "p", true}, {"p q", "q p", true}, {"p(1) p(2) q(f(a)) p", "q(f(a)) p p(2) p(1)", true},
		{"", "p", false}, {"p", "q", false}, {"p", "p q", false}, {"p(1)", "p(2)", false}, {"p(1)", "p", false}, {"p(1)", "q(1)", false}, {"p(1)", "p(1,1)", false}, {"p(a) q(b)", "p(b) q(a)", false}, {"p(1) p(2)", "p(1) p(3)", false}, {"p(f(1))", "p(f(2))", false},
	} {
		a, b := storeOfText(t, c.a), storeOfText(t, c.b)
		if a.Equal(b) != c.want || b.Equal(a) != c.want || !a.Equal(a) || !b.Equal(b) {
			t.Errorf("%s and %s: %v and %v, want %v", c.a, c.b, a.Equal(b), b.Equal(a), c.want)
		}
	}
}

func TestNotStores(t *testing.T) {
	p := atom("p", number(1))
	for name, n := range notStores(t, p) {
		for _, a := range append(notGround(), p, atom("q")) {
			checkAdd(t, n, a, false, api.ErrNil)
		}
		for _, i := range []int{0, 1, -1, math.MaxInt, math.MinInt} {
			checkAt(t, name, n, i, api.ErrNil)
		}
		if n.Has(p) || n.Has(atom("q")) || n.Len() != 0 || len(n.Sigs()) != 0 || len(n.Sorted()) != 0 {
			t.Errorf("%s has atoms: %d, %v, %s", name, n.Len(), n.Sigs(), textOf(n.Sorted()...))
		}
		checkText(t, "All of "+name, n.All(predicate(p)), "")
		checkText(t, "Find of "+name, n.Find(predicate(p), 0, number(1)), "")
		if n.Copy() != nil {
			t.Error("there is a copy of", name)
		}
		for _, s := range []*store.Store{store.New(), storeOf(t, p), n, nil, new(store.Store)} {
			if n.Equal(s) || s.Equal(n) {
				t.Error("a store equals", name)
			}
		}
	}
}

// TestEmptyNotStores checks that also what is no store and contains nothing equals no empty store.
func TestEmptyNotStores(t *testing.T) {
	for name, n := range notStores(t) {
		if n.Equal(store.New()) || store.New().Equal(n) || n.Equal(n) || n.Copy() != nil {
			t.Error("an empty store equals", name)
		}
		checkAdd(t, n, atom("p"), false, api.ErrNil)
		check(t, "a new store", store.New(), nil)
	}
}

// TestExample is the example of the chapter.
func TestExample(t *testing.T) {
	s := store.New()
	for i, a := range atomsOf(t, "p(1,a) q p(2,a) p(1,a) p(f(1),b)") {
		checkAdd(t, s, a, i != 3, api.OK)
	}
	if a, e := s.At(2); s.Len() != 4 || textOf(a) != "p(2,a)" || e != api.OK {
		t.Error(s.Len(), textOf(a), e)
	}
	checkText(t, "All", s.All(sig("p", 2)), "p(1,a) p(2,a) p(f(1),b)")
	checkText(t, "Find", s.Find(sig("p", 2), 1, symbol("a")), "p(1,a) p(2,a)")
	if got := s.Sigs(); !slices.Equal(got, []api.Sig{sig("p", 2), sig("q", 0)}) {
		t.Error(got)
	}
	checkText(t, "Sorted", s.Sorted(), "p(1,a) p(2,a) p(f(1),b) q")
	checkAdd(t, s, atom("p", variable("X")), false, api.ErrArg)
}
