package finite

import (
	"iter"
	"math"
	"slices"

	"ostler/api"
)

// step offers the bounds that a premise gives to variables.
type step func(b *bounds)

// clause consists of heads of a rule that have the same premises.
type clause struct {
	steps   []step
	reads   []int // the places on which the bounds depend
	growth  int   // the sum of the greatest depths in the equations
	demands []demand
}

// demand is an occurrence of a variable in an argument of a head.
type demand struct {
	place int
	name  string
	depth int
}

// compile returns the clauses of a rule that have demands. The heads without conditions share a clause, so that a rule with many of them takes little time.
func (l places) compile(r api.Rule) []clause {
	var body clause
	for _, b := range r.Body {
		if b.Kind == api.BodyLit {
			l.assume(&body, b.Lit)
		}
	}
	shared, list := body, []clause{}
	for _, h := range r.Heads {
		switch demands := l.demands(h.Atom); {
		case len(h.Cond) == 0:
			shared.demands = append(shared.demands, demands...)
		case len(demands) > 0:
			c := clause{slices.Clone(body.steps), slices.Clone(body.reads), body.growth, demands}
			for _, x := range h.Cond {
				l.assume(&c, x)
			}
			list = append(list, c)
		}
	}
	if len(shared.demands) > 0 {
		list = append(list, shared)
	}
	return list
}

// assume adds a premise to a clause.
func (l places) assume(c *clause, x api.Lit) {
	switch {
	case x.Not:
		return
	case x.Kind == api.LitAtom:
		start := l.start(x.Atom)
		for i, arg := range x.Atom.Args {
			c.read(start+i, arg)
		}
	case x.Kind == api.LitComp && x.Op == api.OpEq:
		c.equate(x.L, x.R)
		c.equate(x.R, x.L)
	}
}

// read adds an argument of a positive atom.
func (c *clause) read(place int, arg api.Term) {
	for o := range occurrences(arg) {
		if o.plain {
			c.steps = append(c.steps, func(b *bounds) { b.offer(o.name, b.ranks[place]-o.depth) })
			c.reads = append(c.reads, place)
		}
	}
}

// equate adds an equation, if the first side is a variable.
func (c *clause) equate(side, other api.Term) {
	if side.Kind != api.TermVar {
		return
	}
	uses, deepest := []occurrence{}, 0
	for o := range occurrences(other) {
		uses = append(uses, o)
		deepest = max(deepest, o.depth)
	}
	c.steps = append(c.steps, func(b *bounds) { b.solve(side.Name, uses, math.MinInt) })
	c.growth += deepest
}

// demands returns the occurrences of variables in a head.
func (l places) demands(head api.Atom) []demand {
	var list []demand
	start := l.start(head)
	for i, arg := range head.Args {
		for o := range occurrences(arg) {
			list = append(list, demand{start + i, o.name, o.depth})
		}
	}
	return list
}

// needs yields, for each demand, its place and the least rank that this place may have. Without a bound, no rank is great enough.
func (c clause) needs(ranks []int) iter.Seq2[int, int] {
	return func(yield func(int, int) bool) {
		known := c.bounds(ranks)
		for _, d := range c.demands {
			need := math.MaxInt
			if bound, ok := known[d.name]; ok {
				need = d.depth + bound
			}
			if !yield(d.place, need) {
				return
			}
		}
	}
}
