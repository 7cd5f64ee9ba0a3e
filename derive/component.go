package derive

import (
	"iter"
	"slices"

	"ostler/api"
	"ostler/depend"
	"ostler/join"
	"ostler/store"
)

// stores are the possible and the certain atoms.
type stores struct {
	possible, certain *store.Store
}

func newStores() stores { return stores{store.New(), store.New()} }

// component processes the rules with heads in a component. It extends the stores, which it shares with the other components.
type component struct {
	stores
	members map[api.Sig]bool
	rules   []api.Rule
	fresh   stores           // what the round adds
	changed map[api.Sig]bool // the predicates of what the round added
	failure api.Errno        // of the round
}

// componentsOf returns the components of a safe program, in order.
func componentsOf(p api.Prog, known stores) []*component {
	var list []*component
	home := map[api.Sig]int{}
	for i, sigs := range depend.Components(p) {
		c := &component{stores: known, members: map[api.Sig]bool{}}
		for _, s := range sigs {
			c.members[s] = true
			home[s] = i
		}
		list = append(list, c)
	}
	for _, r := range p.Rules {
		if r.Kind == api.RuleWeak {
			continue
		}
		joined := map[int]bool{}
		for _, h := range r.Heads {
			if i := home[depend.Of(h.Atom)]; !joined[i] {
				joined[i] = true
				list[i].rules = append(list[i].rules, r)
			}
		}
	}
	return list
}

// saturate extends the stores in rounds until nothing changes.
func (c *component) saturate() api.Errno {
	var all []*rule
	for _, r := range c.rules {
		all = append(all, c.compile(r))
	}
	for due := all; len(due) > 0; due = c.affected(all) {
		if e := c.round(due); e != api.OK {
			return e
		}
	}
	return api.OK
}

// affected returns the rules that read a predicate that changed.
func (c *component) affected(rules []*rule) []*rule {
	var l []*rule
	for _, r := range rules {
		if slices.ContainsFunc(r.reads, func(s api.Sig) bool { return c.changed[s] }) {
			l = append(l, r)
		}
	}
	return l
}

// round evaluates rules, and then adds what was found.
func (c *component) round(rules []*rule) api.Errno {
	c.fresh, c.changed = newStores(), map[api.Sig]bool{}
	for _, r := range rules {
		c.evaluate(r)
	}
	for _, a := range c.fresh.possible.Sorted() {
		c.add(c.possible, a)
	}
	for _, a := range c.fresh.certain.Sorted() {
		c.add(c.certain, a)
	}
	return c.failure
}

func (c *component) add(s *store.Store, a api.Atom) {
	_, e := s.Add(a)
	c.fail(e)
	c.changed[depend.Of(a)] = true
}

// fail notes an error, if it is one. The round goes on, because ErrLong precedes ErrMany.
func (c *component) fail(e api.Errno) {
	if c.failure == api.OK || e == api.ErrLong {
		c.failure = e
	}
}

// evaluate considers the instances of a rule.
func (c *component) evaluate(r *rule) {
	instances, e := join.Join(r.flat, c.possible, nil)
	c.fail(e)
	tests := c.tests(r)
	for _, b := range instances {
		v := r.best
		for i := 0; i < len(tests) && v != isImpossible; i++ {
			v = min(v, tests[i](b))
		}
		if v == isImpossible {
			continue
		}
		for _, note := range r.heads {
			note(b, v)
		}
	}
}

// conclusions yields the ground conclusions of the elements of a condition.
func (c *component) conclusions(x condition, b api.Binding) iter.Seq[api.Lit] {
	elements, e := x.elements(c.certain, b)
	c.fail(e)
	return x.conclusions(elements...)
}

// rate returns the verdict on a ground literal.
func (c *component) rate(l api.Lit) verdict {
	earlier := !c.members[depend.Of(l.Atom)]
	switch {
	case l.Kind == api.LitComp && join.Order(l.Op, l.L, l.R):
		return isCertain
	case l.Kind == api.LitComp:
		return isImpossible
	case l.Not && earlier && c.certain.Has(l.Atom):
		return isImpossible
	case l.Not && earlier && !c.possible.Has(l.Atom):
		return isCertain
	case l.Not:
		return isPossible
	case c.certain.Has(l.Atom):
		return isCertain
	case c.possible.Has(l.Atom):
		return isPossible
	}
	return isImpossible
}

// conclude notes a ground head of an instance.
func (c *component) conclude(a api.Atom, v verdict) {
	if !c.members[depend.Of(a)] {
		return
	}
	c.note(c.fresh.possible, c.possible, a)
	if v == isCertain {
		c.note(c.fresh.certain, c.certain, a)
	}
}

// note puts an atom that is not known yet among the fresh ones.
func (c *component) note(fresh, known *store.Store, a api.Atom) {
	if known.Has(a) {
		return
	}
	_, e := fresh.Add(a)
	if e == api.ErrArg {
		// The values of the variables made it too deep.
		e = api.ErrLong
	}
	c.fail(e)
}
