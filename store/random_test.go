package store_test

import (
	"math/rand/v2"
	"testing"

	"ostler/api"
	"ostler/store"
	"ostler/term"
)

func equalTerms(a, b api.Term) bool { return term.Equal(a, b) }

// random produces terms and atoms, so few of them that many are equal.
type random struct{ *rand.Rand }

func newRandom(seed uint64) random { return random{rand.New(rand.NewPCG(seed, 0))} }

func (g random) pick(names ...string) string { return names[g.IntN(len(names))] }

func (g random) list(item func() api.Term, least, most int) []api.Term {
	var l []api.Term
	for range least + g.IntN(most-least+1) {
		l = append(l, item())
	}
	return l
}

func (g random) value() api.Term {
	switch g.IntN(5) {
	case 0, 1:
		return number(g.IntN(4) - 1)
	case 2, 3:
		return symbol(g.pick("a", "b", "f", "p"))
	}
	return function(g.pick("f", "p"), g.list(g.value, 1, 2)...)
}

// atom produces a ground atom or, seldom, another one.
func (g random) atom() api.Atom {
	a := atom(g.pick("p", "q", "f", "pp", "p_", "P")+g.pick("", "", "", "", "1"), g.list(g.value, 0, 3)...)
	if len(a.Args) > 0 && g.IntN(10) == 0 {
		others := append(notValues(), api.Term{}, symbol("A"), function("f"))
		a.Args[g.IntN(len(a.Args))] = others[g.IntN(len(others))]
	}
	return a
}

// twin is a store together with a slice of the atoms that it should contain.
type twin struct {
	*store.Store
	atoms []api.Atom
}

// add adds an atom to both parts of a twin.
func (x *twin) add(t *testing.T, a api.Atom) {
	t.Helper()
	switch {
	case !store.Valid(a):
		checkAdd(t, x.Store, a, false, api.ErrArg)
	case has(x.atoms, a):
		checkAdd(t, x.Store, a, false, api.OK)
	default:
		checkAdd(t, x.Store, a, true, api.OK)
		x.atoms = append(x.atoms, a)
	}
}

// subset reports whether a slice contains all atoms of another one.
func subset(a, b []api.Atom) bool {
	return len(chosen(a, func(x api.Atom) bool { return !has(b, x) })) == 0
}

// TestRandomStores compares stores and copies of them with slices while atoms are added.
func TestRandomStores(t *testing.T) {
	g := newRandom(2)
	equal, different := 0, 0
	for range 60 {
		twins := []*twin{{store.New(), nil}}
		for range 100 {
			x := twins[g.IntN(len(twins))]
			a := g.atom()
			x.add(t, a)
			if b := g.atom(); x.Has(b) != has(x.atoms, b) || x.Has(a) != has(x.atoms, a) {
				t.Errorf("Has of %s or %s", textOf(a), textOf(b))
			}
			if g.IntN(25) == 0 {
				twins = append(twins, &twin{x.Copy(), append([]api.Atom(nil), x.atoms...)})
			}
		}
		for _, x := range twins {
			check(t, "a random store", x.Store, x.atoms)
			checkRandomFinds(t, g, x)
			for _, y := range twins {
				want := subset(x.atoms, y.atoms) && subset(y.atoms, x.atoms)
				if x.Equal(y.Store) != want {
					t.Fatalf("Equal of %s and %s is not %v", textOf(x.atoms...), textOf(y.atoms...), want)
				}
				if want {
					equal++
				} else {
					different++
				}
			}
		}
	}
	if equal < 100 || different < 100 {
		t.Error("the samples are one-sided", equal, different)
	}
}

func checkRandomFinds(t *testing.T, g random, x *twin) {
	t.Helper()
	for range 50 {
		a := g.atom()
		s, arg, v := predicate(a), g.IntN(6)-1, g.value()
		checkSame(t, "All", x.All(s), chosen(x.atoms, func(b api.Atom) bool { return predicate(b) == s }))
		checkSame(t, "Find", x.Find(s, arg, v), chosen(x.atoms, func(b api.Atom) bool {
			return predicate(b) == s && 0 <= arg && arg < len(b.Args) && term.Equal(b.Args[arg], v)
		}))
	}
}

// TestEqualIgnoresOrder adds the same atoms in several orders.
func TestEqualIgnoresOrder(t *testing.T) {
	g := newRandom(3)
	for range 100 {
		x, y := twin{store.New(), nil}, twin{store.New(), nil}
		for range 30 {
			x.add(t, g.atom())
		}
		for _, i := range g.Perm(len(x.atoms)) {
			if x.Equal(y.Store) || y.Equal(x.Store) {
				t.Fatal("a store equals one with fewer atoms")
			}
			y.add(t, x.atoms[i])
		}
		if !x.Equal(y.Store) || !y.Equal(x.Store) {
			t.Fatalf("%s and %s are not equal", textOf(x.atoms...), textOf(y.atoms...))
		}
		checkSame(t, "Sorted", x.Sorted(), y.Sorted())
	}
}
