package join

import (
	"slices"

	"ostler/api"
	"ostler/store"
)

// processor processes a flat list. Which variables are bound after a step does not depend on the rows, so that the steps are found before they are taken.
type processor struct {
	bound
	atoms *store.Store
	steps []step
}

// step replaces rows by their extensions.
type step func(rows []row) ([]row, api.Errno)

func newProcessor(s *store.Store, names ...string) *processor {
	p := &processor{bound: bound{}, atoms: s}
	p.add(names...)
	return p
}

// plan finds the steps for a flat list, and reports whether they bind all variables.
func (p *processor) plan(flat []api.Lit) bool {
	waiting, positive, negative := split(flat)
next:
	for i, c := range waiting {
		if p.ready(c) {
			p.then(p.compare(c), slices.Concat(c.left, c.right)...)
			waiting = slices.Delete(waiting, i, i+1)
			goto next
		}
	}
	if len(positive) > 0 {
		p.then(p.find(positive[0]), variables(positive[0].Args...)...)
		positive = positive[1:]
		goto next
	}
	return len(waiting) == 0 && p.has(negative...)
}

// then appends a step that binds variables.
func (p *processor) then(s step, names ...string) {
	p.steps = append(p.steps, s)
	p.add(names...)
}

// split returns the comparisons of a valid list, its positive atoms, and the variables of its negative atoms.
func split(flat []api.Lit) (waiting []*comparison, positive []api.Atom, negative []string) {
	for _, l := range flat {
		switch {
		case l.Kind == api.LitComp:
			waiting = append(waiting, &comparison{l, variables(l.L), variables(l.R)})
		case l.Not:
			negative = append(negative, variables(l.Atom.Args...)...)
		default:
			positive = append(positive, l.Atom)
		}
	}
	return waiting, positive, negative
}

// run takes the steps, beginning with one row.
func (p *processor) run(first row) ([]row, api.Errno) {
	rows, e := []row{first}, api.OK
	for _, take := range p.steps {
		if len(rows) == 0 || e != api.OK {
			break
		}
		rows, e = take(rows)
	}
	return rows, e
}
