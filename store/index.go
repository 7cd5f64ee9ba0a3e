package store

import (
	"slices"

	"ostler/api"
	"ostler/depend"
	"ostler/term"
)

// list is a list of ground atoms, numbered from 0. No other memory is shared with them.
type list []api.Atom

func (l list) count() int { return len(l) }

// pick returns copies of the atoms with the given numbers.
func (l list) pick(numbers []int) []api.Atom {
	return collect(numbers, func(n int) api.Atom { return cloneAtom(l[n]) })
}

// sorted returns the numbers of all atoms in the order of atoms.
func (l list) sorted() []int {
	numbers := make([]int, len(l))
	for i := range l {
		numbers[i] = i
	}
	slices.SortFunc(numbers, func(i, k int) int { return Compare(l[i], l[k]) })
	return numbers
}

// place is an argument position of a predicate with the text of the value there.
type place struct {
	sig  api.Sig
	arg  int
	text string
}

// index is a list of distinct atoms that finds their numbers by their texts, by their predicates and by their arguments.
type index struct {
	list
	numbers map[string]int
	bySig   map[api.Sig][]int
	byArg   map[place][]int
}

func emptyIndex() index {
	return index{numbers: map[string]int{}, bySig: map[api.Sig][]int{}, byArg: map[place][]int{}}
}

// insert adds a copy of a ground atom that the index does not contain.
func (x *index) insert(a api.Atom) {
	n, g := x.count(), depend.Of(a)
	x.list = append(x.list, cloneAtom(a))
	x.numbers[text(a)] = n
	x.bySig[g] = append(x.bySig[g], n)
	for i, t := range a.Args {
		p := place{g, i, term.String(t)}
		x.byArg[p] = append(x.byArg[p], n)
	}
}

// contains reports whether the index contains a ground atom.
func (x index) contains(a api.Atom) bool {
	_, found := x.numbers[text(a)]
	return found
}

// within reports whether another index contains all atoms of this one.
func (x index) within(other index) bool {
	for t := range x.numbers {
		if _, found := other.numbers[t]; !found {
			return false
		}
	}
	return true
}
