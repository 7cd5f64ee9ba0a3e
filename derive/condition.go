package derive

import (
	"iter"
	"slices"

	"ostler/api"
	"ostler/join"
	"ostler/store"
)

// condition is the flat form of a condition, followed by a negative atom for each of its conclusions.
type condition struct {
	flat     []api.Lit
	excluded []api.Atom // the atoms of its negative literals
	concl    []api.Lit
	atoms    []api.Lit // one for each conclusion
}

// newCondition flattens valid lists for bindings of the given variables.
func newCondition(cond, concl []api.Lit, used ...string) condition {
	l := slices.Clone(cond)
	for _, x := range concl {
		if x.Kind == api.LitComp {
			x.Atom = requiring(x.L, x.R)
		}
		l = append(l, negative(x.Atom))
	}
	flat := join.Flat(l, used...)
	atoms := atomsAmong(flat)
	own := len(atoms) - len(concl)
	c := condition{flat: flat, concl: concl, atoms: atoms[own:]}
	for _, x := range atoms[:own] {
		if x.Not {
			c.excluded = append(c.excluded, x.Atom)
		}
	}
	return c
}

// elements returns the elements for a store and a binding.
func (c condition) elements(s *store.Store, b api.Binding) ([]api.Binding, api.Errno) {
	rows, e := join.Join(c.flat, s, b)
	return slices.DeleteFunc(rows, func(row api.Binding) bool {
		return slices.ContainsFunc(c.excluded, func(a api.Atom) bool { return s.Has(ground(a, row)) })
	}), e
}

// conclusions yields the ground conclusions of elements.
func (c condition) conclusions(elements ...api.Binding) iter.Seq[api.Lit] {
	return func(yield func(api.Lit) bool) {
		for _, b := range elements {
			for i, x := range c.concl {
				if !yield(conclusion(x, ground(c.atoms[i].Atom, b))) {
					return
				}
			}
		}
	}
}

// conclusion returns a literal with the arguments of a ground atom in place of its terms.
func conclusion(l api.Lit, a api.Atom) api.Lit {
	if l.Kind == api.LitComp {
		return api.Lit{Kind: l.Kind, L: a.Args[0], Op: l.Op, R: a.Args[1]}
	}
	return api.Lit{Kind: l.Kind, Not: l.Not, Atom: a}
}
