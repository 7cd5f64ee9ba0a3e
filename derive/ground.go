package derive

import (
	"slices"
	"strings"

	"ostler/api"
	"ostler/term"
)

// ground returns an atom with the values of a binding in place of its variables.
func ground(a api.Atom, b api.Binding) api.Atom {
	a.Args = applyAll(a.Args, b)
	return a
}

func applyAll(terms []api.Term, b api.Binding) []api.Term {
	var l []api.Term
	for _, t := range terms {
		l = append(l, apply(t, b))
	}
	return l
}

// apply returns a copy of a term with the values of a binding in place of its variables.
func apply(t api.Term, b api.Binding) api.Term {
	if t.Kind == api.TermVar {
		i, found := slices.BinarySearchFunc(b, t.Name, func(x api.Bind, name string) int { return strings.Compare(x.Name, name) })
		if found {
			t = b[i].Val
			b = nil
		}
	}
	t.Args = applyAll(t.Args, b)
	return t
}

// copies returns copies of literals, which share no memory with them.
func copies(literals ...api.Lit) []api.Lit {
	var l []api.Lit
	for _, x := range literals {
		x.Atom = ground(x.Atom, nil)
		x.L, x.R = apply(x.L, nil), apply(x.R, nil)
		l = append(l, x)
	}
	return l
}

// atomsAmong returns the literals with atoms.
func atomsAmong(l []api.Lit) []api.Lit {
	return slices.DeleteFunc(slices.Clone(l), func(x api.Lit) bool { return x.Kind != api.LitAtom })
}

// variables returns the variables of literals, in order.
func variables(literals ...api.Lit) []string {
	var terms []api.Term
	for _, x := range literals {
		if x.Kind == api.LitAtom {
			terms = append(terms, x.Atom.Args...)
		} else {
			terms = append(terms, x.L, x.R)
		}
	}
	return term.Vars(api.Term{Args: terms})
}

func names(b api.Binding) []string {
	var l []string
	for _, x := range b {
		l = append(l, x.Name)
	}
	return l
}
