package finite

import (
	"ostler/api"
	"ostler/depend"
)

// solver has a ranking of the places of a program, which it raises until it fits.
type solver struct {
	places
	ranks []int
}

// lacks reports whether a clause needs greater ranks.
func (s solver) lacks(c clause) bool {
	for place, need := range c.needs(s.ranks) {
		if need > s.ranks[place] {
			return true
		}
	}
	return false
}

// groups returns the clauses of a program, grouped such that they read no place that a later group raises. A clause belongs to the first component among those of its heads, all of which depend on what it reads.
func (s solver) groups(p api.Prog) [][]clause {
	components := depend.Components(p)
	home := map[api.Sig]int{}
	for i, component := range components {
		for _, sig := range component {
			home[sig] = i
		}
	}
	list := make([][]clause, len(components))
	for _, r := range p.Rules {
		for _, c := range s.compile(r) {
			first := len(components)
			for _, d := range c.demands {
				first = min(first, home[s.predicate(d.place)])
			}
			list[first] = append(list[first], c)
		}
	}
	return list
}

// settle raises ranks as far as the clauses of a group need it, and reports whether this comes to an end. When the rank of a place rises, the clauses that read it are examined again. The clauses join one by one: where ranks rise along a cycle without end, they then exceed the limit before the rest of the group takes any time.
func (s solver) settle(group []clause) bool {
	limit, readers := s.limit(group), map[int][]int{}
	for i, c := range group {
		for _, place := range c.reads {
			readers[place] = append(readers[place], i)
		}
	}
	open := queue{waits: map[int]bool{}}
	for i := range group {
		for open.add(i); len(open.list) > 0; {
			for place, need := range group[open.next()].needs(s.ranks) {
				switch {
				case need > limit:
					return false
				case need > s.ranks[place]:
					s.ranks[place] = need
					open.add(readers[place]...)
				}
			}
		}
	}
	return true
}

// limit returns a number that no rank exceeds that the clauses of a group need, if this comes to an end. In the end a rank is the sum of what a clause adds to the rank of a place that it reads, what another clause has added to that one, and so on, back to a rank from before. Each place adds to this sum at most once, because what is added between two of its appearances would be added again and again.
func (s solver) limit(group []clause) int {
	before, growth := 0, map[int]int{}
	for _, c := range group {
		for _, place := range c.reads {
			before = max(before, s.ranks[place])
		}
		for _, d := range c.demands {
			growth[d.place] = max(growth[d.place], d.depth+c.growth)
		}
	}
	limit := before
	for _, n := range growth {
		limit += n
	}
	return min(limit, MaxRank)
}

// queue is a list of clauses, each of which is in it at most once.
type queue struct {
	list  []int
	waits map[int]bool
}

func (q *queue) add(clauses ...int) {
	for _, c := range clauses {
		if !q.waits[c] {
			q.waits[c] = true
			q.list = append(q.list, c)
		}
	}
}

func (q *queue) next() int {
	c := q.list[0]
	q.list = q.list[1:]
	q.waits[c] = false
	return c
}
