package store_test

import (
	"cmp"
	"math"
	"slices"
	"testing"

	"ostler/api"
	"ostler/store"
	"ostler/term"
)

// The functions of this file are direct transcriptions of the chapter's definitions for a slice of atoms.

func equalAtoms(a, b api.Atom) bool {
	return a.Pred == b.Pred && slices.EqualFunc(a.Args, b.Args, term.Equal)
}

func has(l []api.Atom, a api.Atom) bool {
	return slices.ContainsFunc(l, func(x api.Atom) bool { return equalAtoms(x, a) })
}

// order compares two atoms.
func order(a, b api.Atom) int {
	c := cmp.Or(cmp.Compare(a.Pred, b.Pred), cmp.Compare(len(a.Args), len(b.Args)))
	for i := 0; c == 0 && i < len(a.Args); i++ {
		c = term.Compare(a.Args[i], b.Args[i])
	}
	return c
}

func chosen(l []api.Atom, holds func(api.Atom) bool) []api.Atom {
	var found []api.Atom
	for _, a := range l {
		if holds(a) {
			found = append(found, a)
		}
	}
	return found
}

func predicate(a api.Atom) api.Sig { return sig(a.Pred, len(a.Args)) }

// predicates returns the predicates of atoms in order.
func predicates(l []api.Atom) []api.Sig {
	var found []api.Sig
	for _, a := range l {
		found = append(found, predicate(a))
	}
	slices.SortFunc(found, func(a, b api.Sig) int {
		return cmp.Or(cmp.Compare(a.Name, b.Name), cmp.Compare(a.Arity, b.Arity))
	})
	return slices.Compact(found)
}

// check compares all that a store tells of itself with a slice.
func check(t *testing.T, name string, s *store.Store, want []api.Atom) {
	t.Helper()
	if got := s.Len(); got != len(want) {
		t.Errorf("Len of %s: %d, want %d", name, got, len(want))
	}
	if got := s.Sigs(); !slices.Equal(got, predicates(want)) {
		t.Errorf("Sigs of %s: %v, want %v", name, got, predicates(want))
	}
	sorted := slices.Clone(want)
	slices.SortFunc(sorted, order)
	checkSame(t, "Sorted of "+name, s.Sorted(), sorted)
	for i, a := range want {
		if got, e := s.At(i); e != api.OK || !equalAtoms(got, a) {
			t.Errorf("At(%d) of %s: %s and error %d", i, name, textOf(got), e)
		}
		if !s.Has(a) {
			t.Errorf("%s lacks %s", name, textOf(a))
		}
	}
	for _, i := range []int{-1, len(want), len(want) + 1, math.MinInt, math.MaxInt} {
		checkAt(t, name, s, i, api.ErrNone)
	}
	for _, g := range predicates(want) {
		checkPredicate(t, name, s, g, want)
	}
	if t.Failed() {
		t.FailNow()
	}
}

// checkAt checks that an atom does not exist.
func checkAt(t *testing.T, name string, s *store.Store, i int, want api.Errno) {
	t.Helper()
	if got, e := s.At(i); e != want || !equalAtoms(got, api.Atom{}) {
		t.Errorf("At(%d) of %s: %s and error %d, want %d", i, name, textOf(got), e, want)
	}
}

func checkPredicate(t *testing.T, name string, s *store.Store, g api.Sig, want []api.Atom) {
	t.Helper()
	all := chosen(want, func(a api.Atom) bool { return predicate(a) == g })
	checkSame(t, "All of "+name, s.All(g), all)
	for arg := range g.Arity {
		for _, x := range all {
			v := x.Args[arg]
			found := chosen(all, func(a api.Atom) bool { return term.Equal(a.Args[arg], v) })
			checkSame(t, "Find of "+name, s.Find(g, arg, v), found)
		}
	}
}

func checkSame(t *testing.T, name string, got, want []api.Atom) {
	t.Helper()
	if !slices.EqualFunc(got, want, equalAtoms) {
		t.Errorf("%s: %.300s, want %.300s", name, textOf(got...), textOf(want...))
	}
}
