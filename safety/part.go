package safety

import (
	"iter"
	"slices"

	"ostler/api"
	"ostler/term"
)

// part is an element of a rule, or all that is outside of its elements. The literals are those that bind the variables of the part, the terms are those of everything else in it.
type part struct {
	terms    []api.Term
	literals []api.Lit
}

// split returns what is outside of the elements of a rule, and its elements.
func split(r api.Rule) (outside part, elements []part) {
	outside.terms = slices.Concat(r.Tuple, []api.Term{r.Lower, r.Upper, r.Weight, r.Level})
	for _, h := range r.Heads {
		head := part{h.Atom.Args, h.Cond}
		if r.Kind == api.RuleChoice {
			elements = append(elements, head)
		} else {
			outside.terms = append(outside.terms, head.all()...)
		}
	}
	for _, b := range r.Body {
		switch b.Kind {
		case api.BodyLit:
			outside.literals = append(outside.literals, b.Lit)
		case api.BodyCond:
			elements = append(elements, part{used(b.Lit), b.Cond})
		case api.BodyAgg:
			outside.terms = append(outside.terms, b.Bound)
			for _, e := range b.Elems {
				elements = append(elements, part{e.Tuple, e.Cond})
			}
		}
	}
	return outside, elements
}

// used returns the terms of a literal that its kind uses.
func used(l api.Lit) []api.Term {
	switch l.Kind {
	case api.LitAtom:
		return l.Atom.Args
	case api.LitComp:
		return []api.Term{l.L, l.R}
	}
	return nil
}

// all returns all terms of a part.
func (p part) all() []api.Term {
	terms := slices.Clone(p.terms)
	for _, l := range p.literals {
		terms = append(terms, used(l)...)
	}
	return terms
}

// variables yields the variables of a part, once for each term in which they occur.
func (p part) variables() iter.Seq[string] {
	return func(yield func(string) bool) {
		for _, t := range p.all() {
			for _, name := range term.Vars(t) {
				if !yield(name) {
					return
				}
			}
		}
	}
}

// unbound returns the variables of a part that are neither given nor bound by its literals. Those that are given and do not occur in the part are of no use to it.
func (p part) unbound(given set) []string {
	names := collect(p.variables()).sorted()
	known := slices.DeleteFunc(slices.Clone(names), given.lacks)
	return slices.DeleteFunc(names, bind(known, p.literals...).has)
}
