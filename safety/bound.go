package safety

import (
	"iter"
	"slices"

	"ostler/api"
	"ostler/term"
)

// bound is a set of bound variables, and the equations that wait for a variable that is not in it. An equation waits for one variable at a time, so that the order of the literals costs no time.
type bound struct {
	set
	waiting map[string][]equation
}

// equation binds a variable when others are bound.
type equation struct {
	name   string
	others []string
}

// bind returns the variables that are bound by literals, given some.
func bind(given []string, literals ...api.Lit) bound {
	b := bound{set{}, map[string][]equation{}}
	b.add(given...)
	for _, l := range literals {
		b.literal(l)
	}
	return b
}

func (b bound) literal(l api.Lit) {
	switch {
	case l.Not:
		return
	case l.Kind == api.LitAtom:
		for name := range outer(l.Atom.Args...) {
			b.solve(equation{name: name})
		}
	case l.Kind == api.LitComp && l.Op == api.OpEq:
		b.equate(l.L, l.R)
		b.equate(l.R, l.L)
	}
}

// equate binds the one side of an equation, if that is a variable, by the other one.
func (b bound) equate(side, other api.Term) {
	if side.Kind == api.TermVar {
		b.solve(equation{side.Name, term.Vars(other)})
	}
}

// solve binds the variables of equations, and those of the equations that waited for them, as far as the others are bound.
func (b bound) solve(open ...equation) {
	for len(open) > 0 {
		e := open[0]
		open = open[1:]
		missing := slices.IndexFunc(e.others, b.lacks)
		switch {
		case missing >= 0:
			e.others = e.others[missing:]
			b.waiting[e.others[0]] = append(b.waiting[e.others[0]], e)
		case b.lacks(e.name):
			b.add(e.name)
			open = append(open, b.waiting[e.name]...)
		}
	}
}

// outer yields the variables of terms that occur outside of operations and intervals.
func outer(terms ...api.Term) iter.Seq[string] {
	return func(yield func(string) bool) { visitOuter(terms, yield) }
}

func visitOuter(terms []api.Term, yield func(string) bool) bool {
	for _, t := range terms {
		if t.Kind == api.TermOp || t.Kind == api.TermRange {
			continue
		}
		if t.Kind == api.TermVar && !yield(t.Name) || !visitOuter(t.Args, yield) {
			return false
		}
	}
	return true
}
