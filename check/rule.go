package check

import (
	"iter"
	"slices"

	"ostler/api"
)

// terms yields the terms of a rule, in order.
func terms(r *api.Rule) iter.Seq[*api.Term] {
	return func(yield func(*api.Term) bool) {
		visitor(yield).rule(r)
	}
}

// visitor visits terms until it returns false; so do its methods, each for the terms of one part of a rule.
type visitor func(*api.Term) bool

func each[T any](items []T, visit func(*T) bool) bool {
	for i := range items {
		if !visit(&items[i]) {
			return false
		}
	}
	return true
}

func (v visitor) rule(r *api.Rule) bool {
	return each(r.Heads, v.head) && v(&r.Lower) && v(&r.Upper) &&
		each(r.Body, v.element) && v(&r.Weight) && v(&r.Level) && each(r.Tuple, v)
}

func (v visitor) head(h *api.Head) bool {
	return each(h.Atom.Args, v) && each(h.Cond, v.literal)
}

func (v visitor) element(b *api.Body) bool {
	return v.literal(&b.Lit) && each(b.Cond, v.literal) && each(b.Elems, v.tuple) && v(&b.Bound)
}

func (v visitor) tuple(e *api.Elem) bool {
	return each(e.Tuple, v) && each(e.Cond, v.literal)
}

func (v visitor) literal(l *api.Lit) bool {
	return each(l.Atom.Args, v) && v(&l.L) && v(&l.R)
}

// transform returns a copy of a rule in which a closure replaces all parts without arguments, in the order of the terms and from left to right in each.
func transform(r api.Rule, leaf func(api.Term) api.Term) api.Rule {
	r = copyRule(r)
	for t := range terms(&r) {
		*t = replace(*t, leaf)
	}
	return r
}

// replace returns a copy of a term in which a closure replaces all parts without arguments.
func replace(t api.Term, leaf func(api.Term) api.Term) api.Term {
	var args []api.Term
	for _, a := range t.Args {
		args = append(args, replace(a, leaf))
	}
	t.Args = args
	if len(args) == 0 {
		return leaf(t)
	}
	return t
}

// copyRule copies a rule, except for the arguments of its terms.
func copyRule(r api.Rule) api.Rule {
	r.Heads = copies(r.Heads, copyHead)
	r.Body = copies(r.Body, copyElement)
	r.Tuple = slices.Clone(r.Tuple)
	return r
}

func copies[T any](items []T, copied func(T) T) []T {
	var l []T
	for _, x := range items {
		l = append(l, copied(x))
	}
	return l
}

func copyHead(h api.Head) api.Head {
	h.Atom.Args = slices.Clone(h.Atom.Args)
	h.Cond = copies(h.Cond, copyLit)
	return h
}

func copyElement(b api.Body) api.Body {
	b.Lit = copyLit(b.Lit)
	b.Cond = copies(b.Cond, copyLit)
	b.Elems = copies(b.Elems, copyTuple)
	return b
}

func copyTuple(e api.Elem) api.Elem {
	return api.Elem{Tuple: slices.Clone(e.Tuple), Cond: copies(e.Cond, copyLit)}
}

func copyLit(l api.Lit) api.Lit {
	l.Atom.Args = slices.Clone(l.Atom.Args)
	return l
}
