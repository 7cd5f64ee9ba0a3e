package depend

import (
	"iter"

	"ostler/api"
)

// predicates yields the predicates of the atoms of literals.
func predicates(literals ...api.Lit) iter.Seq[api.Sig] {
	return func(yield func(api.Sig) bool) {
		for _, l := range literals {
			if l.Kind == api.LitAtom && !yield(Of(l.Atom)) {
				return
			}
		}
	}
}

// inElements yields the predicates of the conditions of aggregate elements.
func inElements(elems []api.Elem) iter.Seq[api.Sig] {
	var parts []iter.Seq[api.Sig]
	for _, e := range elems {
		parts = append(parts, predicates(e.Cond...))
	}
	return chain(parts...)
}

// occurring yields the predicates of all atoms of a rule. Kinds of body elements do not matter.
func occurring(r api.Rule) iter.Seq[api.Sig] {
	var parts []iter.Seq[api.Sig]
	for _, h := range r.Heads {
		head := api.Lit{Kind: api.LitAtom, Atom: h.Atom}
		parts = append(parts, predicates(head), predicates(h.Cond...))
	}
	for _, b := range r.Body {
		parts = append(parts, predicates(b.Lit), predicates(b.Cond...), inElements(b.Elems))
	}
	return chain(parts...)
}

// restricted yields the predicates of a rule that must be domain predicates.
func restricted(r api.Rule) iter.Seq[api.Sig] {
	var parts []iter.Seq[api.Sig]
	for _, h := range r.Heads {
		if r.Kind == api.RuleChoice {
			parts = append(parts, predicates(h.Cond...))
		}
	}
	for _, b := range r.Body {
		if b.Kind == api.BodyCond {
			parts = append(parts, predicates(b.Cond...))
		}
	}
	return chain(parts...)
}

// chain yields what the given functions yield, one after the other.
func chain[T any](parts ...iter.Seq[T]) iter.Seq[T] {
	return func(yield func(T) bool) {
		for _, part := range parts {
			for x := range part {
				if !yield(x) {
					return
				}
			}
		}
	}
}
