package store_test

import (
	"slices"
	"sync"
	"testing"

	"ostler/api"
	"ostler/store"
)

// P11.5

const sample = "p(1,f(a,g(2))) q p(2,f(a,g(2))) p(f(1),b) q(f(f(1)))"

// spoil changes all memory of terms, and their spare capacity.
func spoil(l []api.Term) {
	l = l[:cap(l)]
	for i := range l {
		spoil(l[i].Args)
		l[i] = symbol("spoilt")
	}
}

func spoilAtoms(l ...api.Atom) {
	for i := range l {
		spoil(l[i].Args)
		l[i] = atom("spoilt")
	}
}

func TestAddedAtomsAreCopied(t *testing.T) {
	s := store.New()
	for _, a := range atomsOf(t, sample) {
		checkAdd(t, s, a, true, api.OK)
		spoilAtoms(a)
	}
	check(t, "a store of atoms that changed", s, atomsOf(t, sample))

	// The atoms of a program may share memory with each other.
	args := []api.Term{function("f", number(1)), number(2)}
	s = storeOf(t, api.Atom{Pred: "p", Args: args}, api.Atom{Pred: "q", Args: args}, api.Atom{Pred: "p", Args: args[:1]})
	args[0].Args[0] = number(3)
	args[1] = number(4)
	check(t, "a store of atoms that shared memory", s, atomsOf(t, "p(f(1),2) q(f(1),2) p(f(1))"))
}

func TestAtomsThatAreNotAddedAreNotKept(t *testing.T) {
	s := storeOfText(t, sample)
	for _, a := range atomsOf(t, sample) {
		checkAdd(t, s, a, false, api.OK)
		s.Has(a)
		if len(a.Args) > 0 {
			s.Find(predicate(a), 0, a.Args[0])
		}
		spoilAtoms(a)
	}
	check(t, "a store to which its atoms were added again", s, atomsOf(t, sample))
}

// results returns all lists of atoms that a store returns.
func results(t *testing.T, s *store.Store) map[string][]api.Atom {
	t.Helper()
	var numbered []api.Atom
	for i := range s.Len() {
		a, _ := s.At(i)
		numbered = append(numbered, a)
	}
	two := sig("p", 2)
	return map[string][]api.Atom{
		"At": numbered, "Sorted": s.Sorted(), "All": s.All(two), "All q/0": s.All(sig("q", 0)), "All q/1": s.All(sig("q", 1)),
		"Find": s.Find(two, 1, function("f", symbol("a"), function("g", number(2)))), "Find 1": s.Find(two, 0, number(1)), "Find f(1)": s.Find(two, 0, function("f", number(1))),
	}
}

func TestResultsAreCopies(t *testing.T) {
	s := storeOfText(t, sample)
	want := results(t, s)
	for name, got := range results(t, s) {
		if len(got) == 0 {
			t.Errorf("%s returns nothing", name)
		}
		spoilAtoms(got...)
		check(t, "a store whose atoms changed after "+name, s, atomsOf(t, sample))
		for other, l := range results(t, s) {
			checkSame(t, other, l, want[other])
		}
	}
	sigs := s.Sigs()
	sigs[0] = sig("spoilt", 0)
	check(t, "a store whose predicates changed", s, atomsOf(t, sample))
	checkAdd(t, s, atom("r"), true, api.OK)
	check(t, "a store with one more atom", s, append(atomsOf(t, sample), atom("r")))
}

// TestResultsOfOneCallAreDistinct checks that the atoms of one result share no memory, nor spare capacity.
func TestResultsOfOneCallAreDistinct(t *testing.T) {
	v := function("f", symbol("a"), function("g", number(2)))
	s := storeOf(t, atom("p", v, v), atom("p", v, number(1)), atom("p", number(1), v), atom("q", v, v))
	want := results(t, s)
	for name, got := range results(t, s) {
		for i := range got {
			fresh := results(t, s)[name]
			spoilAtoms(fresh[i])
			fresh[i] = want[name][i]
			checkSame(t, "the rest of "+name, fresh, want[name])
		}
	}
	two := s.Sorted()[0]
	spoil(two.Args[:1:1])
	if !equalTerms(two.Args[1], v) {
		t.Error("the arguments of one atom share memory")
	}
}

func TestCopiesAreIndependent(t *testing.T) {
	l := atomsOf(t, sample)
	s := storeOf(t, l...)
	c := s.Copy()
	d := c.Copy()
	checkAdd(t, s, atom("r", number(1)), true, api.OK)
	checkAdd(t, c, atom("r", number(2)), true, api.OK)
	checkAdd(t, d, atom("p", number(1), symbol("b")), true, api.OK)
	with := func(a api.Atom) []api.Atom { return append(slices.Clip(l), a) }
	check(t, "the original", s, with(atom("r", number(1))))
	check(t, "the copy", c, with(atom("r", number(2))))
	check(t, "the copy of the copy", d, with(atom("p", number(1), symbol("b"))))
	if s.Equal(c) || c.Equal(d) || s.Equal(d) {
		t.Error("stores with different atoms are equal")
	}
	for _, o := range []*store.Store{s, c, d} {
		spoilAtoms(o.Sorted()...)
		for i := range 50 {
			checkAdd(t, o, atom("n", number(i)), true, api.OK)
		}
	}
	checkText(t, "All of the original", s.All(sig("r", 1)), "r(1)")
	checkText(t, "All of the copy", c.All(sig("r", 1)), "r(2)")
}

// TestReadersDoNotWrite lets several goroutines read one store, which the race detector observes.
func TestReadersDoNotWrite(t *testing.T) {
	l := atomsOf(t, sample)
	s := storeOf(t, l...)
	var readers sync.WaitGroup
	for range 4 {
		readers.Go(func() {
			for range 20 {
				if c := s.Copy(); !c.Equal(s) || s.Len() != len(l) || !s.Has(l[0]) || len(s.Sorted()) != len(s.Copy().Sorted()) || len(s.Find(sig("p", 2), 1, symbol("b"))) != 1 {
					t.Error("a reader finds other atoms")
				}
			}
		})
	}
	readers.Wait()
}
