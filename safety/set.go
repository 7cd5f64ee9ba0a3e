package safety

import (
	"iter"
	"maps"
	"slices"
)

// set is a set of variables.
type set map[string]bool

func collect(names iter.Seq[string]) set {
	s := set{}
	for name := range names {
		s.add(name)
	}
	return s
}

func (s set) add(names ...string) {
	for _, name := range names {
		s[name] = true
	}
}

func (s set) has(name string) bool { return s[name] }

func (s set) lacks(name string) bool { return !s[name] }

func (s set) sorted() []string { return slices.Sorted(maps.Keys(s)) }
