package store

import (
	"cmp"
	"slices"
	"strings"

	"ostler/api"
	"ostler/term"
)

// Valid reports whether an atom is a ground atom.
func Valid(a api.Atom) bool {
	if !term.Symbol(a.Pred) || len(a.Args) > api.MaxArgs {
		return false
	}
	return !slices.ContainsFunc(a.Args, func(t api.Term) bool { return !term.Value(t) })
}

// Compare compares two atoms.
func Compare(a, b api.Atom) int {
	if c := cmp.Or(cmp.Compare(a.Pred, b.Pred), cmp.Compare(len(a.Args), len(b.Args))); c != 0 {
		return c
	}
	return slices.CompareFunc(a.Args, b.Args, term.Compare)
}

// text returns the text of an atom. Different ground atoms have different texts, but an atom that is not ground may have the text of one that is.
func text(a api.Atom) string {
	if len(a.Args) == 0 {
		return a.Pred
	}
	return a.Pred + "(" + strings.Join(collect(a.Args, term.String), ",") + ")"
}

func cloneAtom(a api.Atom) api.Atom {
	a.Args = collect(a.Args, cloneTerm)
	return a
}

func cloneTerm(t api.Term) api.Term {
	t.Args = collect(t.Args, cloneTerm)
	return t
}

// collect returns the results of a function for the given items, in new memory.
func collect[K, T any](items []K, result func(K) T) []T {
	results := slices.Grow([]T(nil), len(items))
	for _, x := range items {
		results = append(results, result(x))
	}
	return results
}
