package join_test

import (
	"math/rand/v2"
	"slices"
	"strings"
	"testing"

	"ostler/api"
	"ostler/join"
	"ostler/store"
	"ostler/term"
)

// random produces terms, literals, stores and bindings, so few of each that many are equal.
type random struct{ *rand.Rand }

func newRandom(seed uint64) random { return random{rand.New(rand.NewPCG(seed, 0))} }

func (g random) pick(names ...string) string { return names[g.IntN(len(names))] }

func (g random) many(item func() api.Term, least, most int) []api.Term {
	var l []api.Term
	for range least + g.IntN(most-least+1) {
		l = append(l, item())
	}
	return l
}

func (g random) value() api.Term {
	switch g.IntN(6) {
	case 0:
		return symbol(g.pick("a", "b"))
	case 1:
		return function(g.pick("f", "g"), g.many(g.value, 1, 2)...)
	}
	return number(g.IntN(4))
}

// names returns the names of variables, in order.
func names() []string { return []string{"#1", "X", "XY", "Y", "_"} }

// pattern produces a valid term.
func (g random) pattern() api.Term {
	switch g.IntN(9) {
	case 0:
		return g.value()
	case 1:
		return function(g.pick("f", "g"), g.many(g.pattern, 1, 2)...)
	case 2:
		if g.IntN(2) == 0 {
			return g.open()
		}
	case 3:
		return number(g.IntN(4))
	}
	return variable(g.pick(names()...))
}

// open produces an operation or an interval.
func (g random) open() api.Term {
	part := func() api.Term {
		if g.IntN(4) == 0 {
			return g.pattern()
		}
		if g.IntN(2) == 0 {
			return number(g.IntN(3))
		}
		return variable(g.pick("X", "Y"))
	}
	switch g.IntN(5) {
	case 0:
		return operation("-", part())
	case 1, 2:
		return operation(g.pick("+", "-", "*", "/", "\\"), part(), part())
	}
	return interval(part(), part())
}

func (g random) lit() api.Lit {
	if g.IntN(3) == 0 {
		op := uint8(api.OpEq)
		if g.IntN(2) == 0 {
			op += uint8(g.IntN(6))
		}
		side := g.pattern
		if g.IntN(2) == 0 {
			side = g.open
		}
		if g.IntN(2) == 0 {
			return comparison(g.pattern(), op, side())
		}
		return comparison(side(), op, variable(g.pick(names()...)))
	}
	x := api.Lit{Kind: api.LitAtom, Not: g.IntN(4) == 0, Atom: atom(g.pick("p", "q"), g.many(g.pattern, 0, 3)...)}
	if len(x.Atom.Args) == 0 && g.IntN(4) > 0 {
		x.Atom.Args = g.many(g.pattern, 1, 2)
	}
	return x
}

func (g random) lits(most int) []api.Lit {
	var l []api.Lit
	for range g.IntN(most + 1) {
		l = append(l, g.lit())
	}
	return l
}

// atoms produces up to a number of ground atoms.
func (g random) atoms(most int) []api.Atom {
	var l []api.Atom
	for range g.IntN(most + 1) {
		l = append(l, atom(g.pick("p", "q"), g.many(g.value, 0, 3)...))
	}
	return l
}

func fill(l []api.Atom) *store.Store {
	s := store.New()
	for _, a := range l {
		s.Add(a)
	}
	return s
}

// binding produces values for some names.
func (g random) binding() api.Binding {
	var b api.Binding
	for _, name := range slices.Insert(names(), 4, "Z") {
		if g.IntN(6) == 0 {
			b = append(b, pair(name, g.value()))
		}
	}
	return b
}

// body produces a list in which atoms bind variables.
func (g random) body(most int) []api.Lit {
	l := g.lits(most)
	for range g.IntN(3) {
		binds := positive(g.pick("p", "q"), variable(g.pick(names()...)))
		if g.IntN(2) == 0 {
			binds.Atom.Args = append(binds.Atom.Args, variable(g.pick("X", "Y")))
		}
		l = slices.Insert(l, g.IntN(len(l)+1), binds)
	}
	return l
}

// checkReference compares the result of Join with the one that the chapter defines, and returns both.
func checkReference(t *testing.T, l []api.Lit, s *store.Store, b api.Binding) ([]api.Binding, api.Errno) {
	t.Helper()
	want, errno := referenceJoin(l, s, b)
	checkJoin(t, l, s, b, bindingsText(want), errno)
	for i, x := range want {
		if got, _ := join.Join(l, s, b); len(got) == len(want) && !slices.EqualFunc(got[i], x, equalPairs) {
			t.Error("different names", x, got[i])
		}
		if i > 3 {
			break
		}
	}
	return want, errno
}

func equalPairs(a, b api.Bind) bool { return a.Name == b.Name && term.Equal(a.Val, b.Val) }

// TestRandomLists compares results with the definition of the chapter.
func TestRandomLists(t *testing.T) {
	g := newRandom(3)
	some, none, unsafe := 0, 0, 0
	for range 40000 {
		l, atoms, b := g.body(3), g.atoms(30), g.binding()
		results, e := checkReference(t, l, fill(atoms), b)
		switch {
		case e == join.ErrUnsafe:
			unsafe++
		case e == api.OK && len(results) == 0:
			none++
		case e == api.OK && len(l) > 0:
			some++
		}
		if t.Failed() {
			t.Fatal(l, b)
		}
	}
	if some < 4000 || none < 5000 || unsafe < 5000 {
		t.Error("the samples are one-sided", some, none, unsafe)
	}
}

// TestRandomErrors does the same for lists that produce many bindings and deep terms, often in the same step.
func TestRandomErrors(t *testing.T) {
	g := newRandom(4)
	binding := []string{"p(X), p(Y)", "X = 1..4, p(Y)", "p(X), Y = 1..60", "p(X,Y)", "X = 20, Y = f(X)"}
	pieces := strings.Split("X < Y;Z = 1..9;Z = 1..150;Z = 1..1001;W = f(X);f(f(X)) = W;W = g(Y,1..50);W = g(f(X),1..200);1..X != f(X,Y);1..X = f(Y);f(X) > Y;f(1..1001) < 2;not q(X+1);not q(f(f(X)));p(W);p(1..X)", ";")
	values := []api.Term{number(2), number(20), number(1000), number(2000), symbol("a"), tower(10, number(1)), tower(11, number(1)), tower(12, number(1))}
	count := map[api.Errno]int{}
	for range 300 {
		sources := []string{g.pick(binding...)}
		for range g.IntN(5) {
			sources = append(sources, g.pick(pieces...))
		}
		var atoms []api.Atom
		for range g.IntN(5) {
			atoms = append(atoms, atom("p", values[g.IntN(len(values))]), atom("p", values[g.IntN(len(values))], values[g.IntN(len(values))]))
		}
		l := litsOf(t, strings.Join(sources, ", "))
		_, e := checkReference(t, l, fill(atoms), nil)
		count[e]++
		if t.Failed() {
			t.Fatal(litsText(l), atoms)
		}
	}
	if count[api.ErrLong] < 20 || count[api.ErrMany] < 50 || count[api.OK] < 50 {
		t.Error("the samples are one-sided", count)
	}
}

// TestLargeStores compares results over stores with many atoms, in which atoms are found in other ways.
func TestLargeStores(t *testing.T) {
	g := newRandom(5)
	some, e := 0, api.OK
	for range 150 {
		var atoms []api.Atom
		for range 100 + g.IntN(300) {
			atoms = append(atoms, atom(g.pick("p", "q"), number(g.IntN(20)), number(g.IntN(6))))
		}
		l := g.lits(2)
		for range 1 + g.IntN(2) {
			l = append(l, positive(g.pick("p", "q"), variable(g.pick("X", "Y")), variable(g.pick("Y", "Z"))))
		}
		var results []api.Binding
		if results, e = checkReference(t, l, fill(atoms), g.binding()); e == api.OK && len(results) > 0 {
			some++
		}
		if t.Failed() {
			t.Fatal(l)
		}
	}
	if some < 30 {
		t.Error("only", some, "lists have bindings")
	}
}
