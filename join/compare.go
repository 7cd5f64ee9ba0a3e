package join

import (
	"slices"

	"ostler/api"
	"ostler/arith"
	"ostler/term"
)

// comparison is a comparison with the variables of its sides.
type comparison struct {
	api.Lit
	left, right []string
}

// ready reports whether a comparison can be tested, or binds a variable that is one side of it.
func (p *processor) ready(c *comparison) bool {
	left, right := p.has(c.left...), p.has(c.right...)
	return left && right || c.Op == api.OpEq && (right && c.L.Kind == api.TermVar || left && c.R.Kind == api.TermVar)
}

// compare returns the step of a comparison that is ready.
func (p *processor) compare(c *comparison) step {
	switch {
	case !p.has(c.left...):
		return p.expand(assign, c.R)
	case !p.has(c.right...):
		return p.expand(assign, c.L)
	}
	return p.expand(func(values ...[]api.Term) []row {
		if !holds(c.Op, values[0], values[1]) {
			return nil
		}
		return []row{nil}
	}, c.L, c.R)
}

// assign returns one row for each value of a variable.
func assign(values ...[]api.Term) []row {
	return collect(values[0], func(v api.Term) row { return row{v} })
}

// expand returns a step that extends each row as a closure says for the expansions of some sides of a comparison. All rows are examined for terms that are too deep, whatever other error there is.
func (p *processor) expand(further func(values ...[]api.Term) []row, sides ...api.Term) step {
	return func(rows []row) ([]row, api.Errno) {
		var next []row
		found := api.OK
		for _, r := range rows {
			ground := collect(sides, func(t api.Term) api.Term { return p.apply(t, r) })
			if slices.ContainsFunc(ground, tooDeep) {
				return nil, api.ErrLong
			}
			if found != api.OK {
				continue
			}
			values, e := expansions(ground)
			if e != api.OK {
				found = e
				continue
			}
			next, found = extend(next, r, further(values...))
		}
		return next, found
	}
}

func tooDeep(t api.Term) bool { return term.Depth(t) > api.MaxDepth }

// expansions returns the expansions of each of some terms.
func expansions(l []api.Term) ([][]api.Term, api.Errno) {
	var values [][]api.Term
	for _, t := range l {
		v, e := arith.Expand(t)
		if e != api.OK {
			return nil, e
		}
		values = append(values, v)
	}
	return values, api.OK
}
