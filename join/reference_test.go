package join_test

import (
	"slices"

	"ostler/api"
	"ostler/arith"
	"ostler/join"
	"ostler/match"
	"ostler/store"
	"ostler/term"
)

// The functions of this file do what the chapter defines, step by step and without regard to time, with the substitution and the matching of package match. That knows no names that begin with #, so they are renamed; the lists of the tests that use this file contain no names that begin with H_.

// referenceJoin returns what Join should return for a valid list, a store and a valid binding of variables.
func referenceJoin(l []api.Lit, s *store.Store, b api.Binding) ([]api.Binding, api.Errno) {
	var used []string
	for _, x := range b {
		used = append(used, x.Name)
	}
	old := append(used, referenceVars(l)...)
	flat := join.Flat(l, used...)
	order, safe := referenceOrder(flat, used)
	if !safe {
		return nil, join.ErrUnsafe
	}
	current := []api.Binding{renameBinding(b, "#", hash)}
	for _, x := range order {
		var e api.Errno
		if current, e = referenceStep(rename([]api.Lit{x}, "#", hash)[0], s, current); e != api.OK {
			return nil, e
		}
	}
	var results []api.Binding
	for _, c := range current {
		c = renameBinding(c, hash, "#")
		results = append(results, slices.DeleteFunc(c, func(x api.Bind) bool { return !slices.Contains(old, x.Name) }))
	}
	slices.SortFunc(results, compareBindings)
	return slices.CompactFunc(results, func(a, b api.Binding) bool { return compareBindings(a, b) == 0 }), api.OK
}

// compareBindings compares the values of two bindings of the same variables.
func compareBindings(a, b api.Binding) int {
	return slices.CompareFunc(a, b, func(x, y api.Bind) int { return term.Compare(x.Val, y.Val) })
}

// renameBinding renames variables, and puts them in order.
func renameBinding(b api.Binding, from, to string) api.Binding {
	b = slices.Clone(b)
	for i, x := range b {
		b[i].Name = renameTerm(variable(x.Name), from, to).Name
	}
	slices.SortFunc(b, func(x, y api.Bind) int {
		if x.Name < y.Name {
			return -1
		}
		return 1
	})
	return b
}

func referenceVars(l []api.Lit) []string {
	var names []string
	for _, x := range l {
		if x.Kind == api.LitAtom {
			names = append(names, term.Vars(api.Term{Args: x.Atom.Args})...)
		} else {
			names = append(names, term.Vars(api.Term{Args: []api.Term{x.L, x.R}})...)
		}
	}
	return names
}

// referenceOrder returns the comparisons and positive atoms of a flat list in the order in which they are processed, and whether all variables are bound in the end.
func referenceOrder(flat []api.Lit, bound []string) ([]api.Lit, bool) {
	bound = slices.Clone(bound)
	done := map[int]bool{}
	var order []api.Lit
	for {
		next := slices.IndexFunc(numbersOf(flat), func(i int) bool {
			return !done[i] && flat[i].Kind == api.LitComp && referenceReady(flat[i], bound)
		})
		if next < 0 {
			next = slices.IndexFunc(numbersOf(flat), func(i int) bool {
				return !done[i] && flat[i].Kind == api.LitAtom && !flat[i].Not
			})
		}
		if next < 0 {
			break
		}
		done[next] = true
		order = append(order, flat[next])
		bound = append(bound, referenceVars(flat[next:next+1])...)
	}
	for i, x := range flat {
		if !done[i] && (x.Kind == api.LitComp || !allIn(referenceVars([]api.Lit{x}), bound)) {
			return nil, false
		}
	}
	return order, true
}

func numbersOf(l []api.Lit) []int {
	var numbers []int
	for i := range l {
		numbers = append(numbers, i)
	}
	return numbers
}

func allIn(names, bound []string) bool {
	return !slices.ContainsFunc(names, func(name string) bool { return !slices.Contains(bound, name) })
}

func referenceReady(c api.Lit, bound []string) bool {
	if allIn(referenceVars([]api.Lit{c}), bound) {
		return true
	}
	for _, sides := range [][2]api.Term{{c.L, c.R}, {c.R, c.L}} {
		if c.Op == api.OpEq && sides[0].Kind == api.TermVar && !slices.Contains(bound, sides[0].Name) && allIn(term.Vars(sides[1]), bound) {
			return true
		}
	}
	return false
}

// referenceStep processes a literal.
func referenceStep(x api.Lit, s *store.Store, current []api.Binding) ([]api.Binding, api.Errno) {
	var next []api.Binding
	long, many := false, false
	for _, b := range current {
		if x.Kind == api.LitAtom {
			for _, a := range s.Sorted() {
				if c, matches := match.MatchAtom(x.Atom, a, b); matches {
					next = append(next, c)
				}
			}
			continue
		}
		extensions, e := referenceCompare(match.ApplyLit(x, b), b)
		long, many = long || e == api.ErrLong, many || e == api.ErrMany
		next = append(next, extensions...)
	}
	switch {
	case long:
		return nil, api.ErrLong
	case many || len(next) > api.MaxInsts:
		return nil, api.ErrMany
	}
	return next, api.OK
}

// referenceCompare returns the extensions of a binding for a comparison to which it was applied.
func referenceCompare(c api.Lit, b api.Binding) ([]api.Binding, api.Errno) {
	if !term.Valid(c.L) || !term.Valid(c.R) {
		return nil, api.ErrLong
	}
	var extensions []api.Binding
	for _, sides := range [][2]api.Term{{c.L, c.R}, {c.R, c.L}} {
		if sides[0].Kind != api.TermVar {
			continue
		}
		values, e := arith.Expand(sides[1])
		for _, v := range values {
			extension, _ := match.Bind(b, sides[0].Name, v)
			extensions = append(extensions, extension)
		}
		return extensions, e
	}
	left, e := arith.Expand(c.L)
	right, f := arith.Expand(c.R)
	if e != api.OK || f != api.OK {
		return nil, api.ErrMany
	}
	if referenceHolds(c.Op, left, right) {
		return []api.Binding{b}, api.OK
	}
	return nil, api.OK
}

// referenceHolds reports whether some values satisfy an operator.
func referenceHolds(op uint8, left, right []api.Term) bool {
	return slices.ContainsFunc(left, func(v api.Term) bool {
		return slices.ContainsFunc(right, func(w api.Term) bool { return match.Test(op, v, w) })
	})
}
