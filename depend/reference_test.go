package depend_test

import (
	"slices"

	"ostler/api"
	"ostler/depend"
)

// The functions of this file are the definitions of the chapter, without regard to time.

func before(a, b api.Sig) bool { return a.Name < b.Name || a.Name == b.Name && a.Arity < b.Arity }

// ordered sorts a list and removes duplicates.
func ordered[T comparable](l []T, less func(a, b T) bool) []T {
	slices.SortFunc(l, func(a, b T) int {
		switch {
		case less(a, b):
			return -1
		case less(b, a):
			return 1
		}
		return 0
	})
	return slices.Compact(l)
}

func predicateOf(a api.Atom) api.Sig { return api.Sig{Name: a.Pred, Arity: len(a.Args)} }

// ofLiterals returns the predicates of the atoms of literals.
func ofLiterals(l ...api.Lit) []api.Sig {
	var found []api.Sig
	for _, x := range l {
		if x.Kind == api.LitAtom {
			found = append(found, predicateOf(x.Atom))
		}
	}
	return found
}

func ofElems(l []api.Elem) []api.Sig {
	var found []api.Sig
	for _, x := range l {
		found = append(found, ofLiterals(x.Cond...)...)
	}
	return found
}

func referenceSigs(p api.Prog) []api.Sig {
	var found []api.Sig
	for _, r := range p.Rules {
		for _, h := range r.Heads {
			found = append(append(found, predicateOf(h.Atom)), ofLiterals(h.Cond...)...)
		}
		for _, b := range r.Body {
			found = slices.Concat(found, ofLiterals(b.Lit), ofLiterals(b.Cond...), ofElems(b.Elems))
		}
	}
	return ordered(found, before)
}

// edgesOfHead returns the edges of the head with an index.
func edgesOfHead(r api.Rule, head int) []depend.Edge {
	from := predicateOf(r.Heads[head].Atom)
	var found []depend.Edge
	both := func(l []api.Sig) {
		for _, to := range l {
			found = append(found, depend.Edge{From: from, To: to}, depend.Edge{From: from, To: to, Neg: true})
		}
	}
	for _, b := range r.Body {
		switch b.Kind {
		case api.BodyLit:
			for _, to := range ofLiterals(b.Lit) {
				found = append(found, depend.Edge{From: from, To: to, Neg: b.Lit.Not})
			}
		case api.BodyCond:
			both(ofLiterals(b.Lit))
			both(ofLiterals(b.Cond...))
		case api.BodyAgg:
			both(ofElems(b.Elems))
		}
	}
	both(ofLiterals(r.Heads[head].Cond...))
	for i, h := range r.Heads {
		if i != head && r.Kind != api.RuleChoice {
			found = append(found, depend.Edge{From: from, To: predicateOf(h.Atom)})
		}
	}
	return found
}

func referenceEdges(p api.Prog) []depend.Edge {
	var found []depend.Edge
	for _, r := range p.Rules {
		for i := range r.Heads {
			found = append(found, edgesOfHead(r, i)...)
		}
	}
	return ordered(found, func(a, b depend.Edge) bool {
		if a.From != b.From {
			return before(a.From, b.From)
		}
		return before(a.To, b.To) || a.To == b.To && !a.Neg && b.Neg
	})
}

// reaching returns which predicate reaches which other one along any number of edges.
func reaching(p api.Prog) map[[2]api.Sig]bool {
	reach := map[[2]api.Sig]bool{}
	all := referenceSigs(p)
	for _, s := range all {
		reach[[2]api.Sig{s, s}] = true
	}
	for _, e := range referenceEdges(p) {
		reach[[2]api.Sig{e.From, e.To}] = true
	}
	for _, via := range all {
		for _, a := range all {
			for _, b := range all {
				if reach[[2]api.Sig{a, via}] && reach[[2]api.Sig{via, b}] {
					reach[[2]api.Sig{a, b}] = true
				}
			}
		}
	}
	return reach
}

// leaves reports whether an edge leads from a component to none of the given predicates and not to itself.
func leaves(edges []depend.Edge, component, to []api.Sig) bool {
	return slices.ContainsFunc(edges, func(e depend.Edge) bool {
		return slices.Contains(component, e.From) && !slices.Contains(component, e.To) && !slices.Contains(to, e.To)
	})
}

func referenceComponents(p api.Prog) [][]api.Sig {
	reach, edges, open := reaching(p), referenceEdges(p), referenceSigs(p)
	var listed []api.Sig
	var components [][]api.Sig
	for len(open) > 0 {
		for _, first := range open {
			var component []api.Sig
			for _, s := range open {
				if reach[[2]api.Sig{first, s}] && reach[[2]api.Sig{s, first}] {
					component = append(component, s)
				}
			}
			if !leaves(edges, component, listed) {
				components = append(components, component)
				listed = append(listed, component...)
				open = slices.DeleteFunc(open, func(s api.Sig) bool { return slices.Contains(component, s) })
				break
			}
		}
	}
	return components
}

func referenceRecursive(p api.Prog, component []api.Sig) bool {
	return slices.ContainsFunc(referenceEdges(p), func(e depend.Edge) bool {
		return slices.Contains(component, e.From) && slices.Contains(component, e.To)
	})
}

// admits reports whether a rule leaves its heads in domain components.
func admits(r api.Rule) bool {
	aggregate := slices.ContainsFunc(r.Body, func(b api.Body) bool { return b.Kind == api.BodyAgg })
	return r.Kind == api.RuleDisj && len(r.Heads) == 1 && !aggregate
}

// isDomain reports whether a component is a domain component if the members of others are known.
func isDomain(p api.Prog, component, known []api.Sig) bool {
	for _, r := range p.Rules {
		for _, h := range r.Heads {
			if slices.Contains(component, predicateOf(h.Atom)) && !admits(r) {
				return false
			}
		}
	}
	edges := referenceEdges(p)
	return !leaves(edges, component, known) && !slices.ContainsFunc(edges, func(e depend.Edge) bool {
		return e.Neg && slices.Contains(component, e.From) && slices.Contains(component, e.To)
	})
}

func referenceDomain(p api.Prog) []api.Sig {
	var known []api.Sig
	for {
		more := slices.Clone(known)
		for _, c := range referenceComponents(p) {
			if isDomain(p, c, known) {
				more = append(more, c...)
			}
		}
		if more = ordered(more, before); len(more) == len(known) {
			return known
		}
		known = more
	}
}

func referenceConds(p api.Prog) api.Errno {
	var found []api.Sig
	for _, r := range p.Rules {
		for _, h := range r.Heads {
			if r.Kind == api.RuleChoice {
				found = append(found, ofLiterals(h.Cond...)...)
			}
		}
		for _, b := range r.Body {
			if b.Kind == api.BodyCond {
				found = append(found, ofLiterals(b.Cond...)...)
			}
		}
	}
	known := referenceDomain(p)
	if slices.ContainsFunc(found, func(s api.Sig) bool { return !slices.Contains(known, s) }) {
		return depend.ErrCond
	}
	return api.OK
}

func reference(p api.Prog) expected {
	components := referenceComponents(p)
	recursive := slices.DeleteFunc(slices.Clone(components), func(c []api.Sig) bool { return !referenceRecursive(p, c) })
	return expected{sigsText(referenceSigs(p)), edgesText(referenceEdges(p)), componentsText(components), componentsText(recursive), sigsText(referenceDomain(p))}
}
