package finite

import (
	"ostler/api"
	"ostler/depend"
)

// places are the places of a program, in order. They are numbered from 0, those of a predicate one after the other.
type places struct {
	list  []Place
	first map[api.Sig]int
}

func placesOf(p api.Prog) places {
	l := places{first: map[api.Sig]int{}}
	for _, s := range depend.Sigs(p) {
		l.first[s] = len(l.list)
		for i := range s.Arity {
			l.list = append(l.list, Place{s, i})
		}
	}
	return l
}

func (l places) count() int { return len(l.list) }

// start returns the number of the place of the first argument of an atom.
func (l places) start(a api.Atom) int { return l.first[depend.Of(a)] }

// predicate returns the predicate of the place with a number.
func (l places) predicate(place int) api.Sig { return l.list[place].Sig }
