package join

import (
	"slices"
	"strings"

	"ostler/api"
	"ostler/depend"
	"ostler/term"
)

// pattern is a positive atom of a flat list. Its variables have places of their own, first the known ones, which were bound before, and then the others.
type pattern struct {
	api.Atom
	places bound
	known  []string
}

// find returns the step of a positive atom.
func (p *processor) find(a api.Atom) step {
	names := variables(a.Args...)
	known := slices.DeleteFunc(slices.Clone(names), p.lacks)
	q := pattern{a, bound{}, known}
	q.places.add(known...)
	q.places.add(names...)
	arg := p.choose(a.Args)
	return func(rows []row) ([]row, api.Errno) {
		matches := p.matches(q, arg, len(rows))
		var next []row
		e := api.OK
		for i := 0; i < len(rows) && e == api.OK; i++ {
			next, e = extend(next, rows[i], matches(rows[i]))
		}
		return next, e
	}
}

// choose returns the number of an argument that determines few atoms, or -1. That is one whose variables are bound, better than one that has none and is the same for all rows.
func (p *processor) choose(args []api.Term) int {
	best := -1
	for i, t := range args {
		names := variables(t)
		if !p.has(names...) {
			continue
		}
		if len(names) > 0 {
			return i
		}
		best = i
	}
	return best
}

// matches returns a function for the values of the other variables of a pattern, for each row. It asks the store for the atoms with one argument if there are few rows, since it would take longer to index all atoms.
func (p *processor) matches(q pattern, arg, count int) func(row) []row {
	const cost = 16 // roughly that of asking for a row, in atoms to be indexed
	g := depend.Of(q.Atom)
	key := func(r row) string {
		return text(collect(q.known, func(name string) api.Term { return r[p.bound[name]] }))
	}
	if arg >= 0 && count*cost < p.atoms.Len() {
		return func(r row) []row {
			return q.index(p.atoms.Find(g, arg, p.apply(q.Args[arg], r)))[key(r)]
		}
	}
	all := q.index(p.atoms.All(g))
	return func(r row) []row { return all[key(r)] }
}

// index returns the values of the other variables in atoms, by the texts of the values of the known ones.
func (q pattern) index(atoms []api.Atom) map[string][]row {
	index := map[string][]row{}
	for _, a := range atoms {
		values := make(row, len(q.places))
		if !q.match(q.Args, a.Args, values) {
			continue
		}
		key := text(values[:len(q.known)])
		index[key] = append(index[key], values[len(q.known):])
	}
	return index
}

// match reports whether values are what terms become by a binding, and stores its values. A variable without a value has a zero term.
func (q pattern) match(terms, values []api.Term, r row) bool {
	for i, t := range terms {
		v := values[i]
		if t.Kind == api.TermVar {
			place := q.places[t.Name]
			if r[place].Kind == 0 {
				r[place] = v
			}
			t = r[place]
		}
		if t.Kind != v.Kind || t.Num != v.Num || t.Name != v.Name || len(t.Args) != len(v.Args) || !q.match(t.Args, v.Args, r) {
			return false
		}
	}
	return true
}

// text returns a text that differs for different lists of values of the same length.
func text(values []api.Term) string {
	return strings.Join(collect(values, term.String), "|")
}
