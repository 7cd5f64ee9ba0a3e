package join

import (
	"slices"
	"strings"

	"ostler/api"
	"ostler/term"
)

func validLit(l api.Lit) bool {
	switch l.Kind {
	case api.LitAtom:
		return term.Symbol(l.Atom.Pred) && len(l.Atom.Args) <= api.MaxArgs && validTerms(l.Atom.Args...)
	case api.LitComp:
		return !l.Not && api.OpEq <= l.Op && l.Op <= api.OpGe && validTerms(l.L, l.R)
	}
	return false
}

func validTerms(l ...api.Term) bool {
	return !slices.ContainsFunc(l, func(t api.Term) bool { return !term.Valid(ordinary(t)) })
}

// ordinary returns a term with a variable name in place of each name that begins with #, which package term does not know.
func ordinary(t api.Term) api.Term {
	if t.Kind == api.TermVar && strings.HasPrefix(t.Name, "#") {
		t.Name = "X"
	}
	t.Args = collect(t.Args, ordinary)
	return t
}

// validBinding reports whether a binding is valid. Its names need not be names of variables.
func validBinding(b api.Binding) bool {
	for i, x := range b {
		if i > 0 && b[i-1].Name >= x.Name || !term.Value(x.Val) {
			return false
		}
	}
	return true
}
