package match

import (
	"slices"

	"ostler/api"
	"ostler/arith"
	"ostler/term"
)

// state is what a match has found: the pairs of its binding, and the open parts of the pattern with the values that are to replace them.
type state struct {
	pairs
	open []openPart
}

type openPart struct{ part, value api.Term }

// matchAll matches terms like the arguments of two function terms, but however many and deep they are.
func matchAll(patterns, values []api.Term, b api.Binding) (api.Binding, bool) {
	p, valid := validPairs(b)
	if !valid || !all(patterns, term.Valid) || !all(values, term.Value) {
		return nil, false
	}
	s := state{pairs: p}
	if !s.fitAll(patterns, values) || !all(s.open, s.expands) {
		return nil, false
	}
	return s.binding(), true
}

// fit binds the outer variables of a valid pattern so that it yields a value. The open parts are put off until all outer variables are bound, since one that follows may occur in them.
func (s *state) fit(pattern, value api.Term) bool {
	switch pattern.Kind {
	case api.TermVar:
		return s.bind(pattern.Name, value)
	case api.TermOp, api.TermRange:
		s.open = append(s.open, openPart{pattern, value})
		return true
	}
	return pattern.Kind == value.Kind && pattern.Num == value.Num && pattern.Name == value.Name &&
		s.fitAll(pattern.Args, value.Args)
}

func (s *state) fitAll(patterns, values []api.Term) bool {
	if len(patterns) != len(values) {
		return false
	}
	for i, pattern := range patterns {
		if !s.fit(pattern, values[i]) {
			return false
		}
	}
	return true
}

// expands reports whether the value for an open part is one of its expansions, of which there are none if a variable is not bound.
func (s *state) expands(o openPart) bool {
	expansions, _ := arith.Expand(s.apply(o.part))
	_, found := slices.BinarySearchFunc(expansions, o.value, term.Compare)
	return found
}

func all[T any](items []T, holds func(T) bool) bool {
	return !slices.ContainsFunc(items, func(x T) bool { return !holds(x) })
}
