package check

import (
	"ostler/api"
	"ostler/arith"
)

// maxParts is the greatest number of parts of a constant's value.
const maxParts = 1000

// evaluator memoizes the values of constants. A constant that has no value, or that is being evaluated, has the zero term: it is not a valid term, so that a constant that depends on it, be it itself, has no value either.
type evaluator struct {
	definitions, values map[string]api.Term
}

// evaluate returns the values of constants, and whether the constants are valid.
func evaluate(consts []api.Const) (map[string]api.Term, bool) {
	e := evaluator{map[string]api.Term{}, map[string]api.Term{}}
	for _, c := range consts {
		if _, twice := e.definitions[c.Name]; twice {
			return nil, false
		}
		e.definitions[c.Name] = c.Val
	}
	for _, c := range consts {
		if e.value(c.Name).Kind == 0 {
			return nil, false
		}
	}
	return e.values, true
}

func (e evaluator) value(name string) api.Term {
	if v, known := e.values[name]; known {
		return v
	}
	e.values[name] = api.Term{}
	e.values[name] = eval(replace(e.definitions[name], e.leaf))
	return e.values[name]
}

// leaf returns what replaces a part without arguments of a constant's definition.
func (e evaluator) leaf(t api.Term) api.Term {
	if _, constant := e.definitions[t.Name]; constant && t.Kind == api.TermSym {
		return e.value(t.Name)
	}
	return t
}

// eval returns the value of a term, or the zero term if it has none or one with too many parts. Values in the term that are operands must be integers, and the others are parts of its own value; so a term with more parts than a source and a value together need not be evaluated, which would take too long.
func eval(t api.Term) api.Term {
	if !within(t, api.MaxSource+maxParts) {
		return api.Term{}
	}
	v, _ := arith.Eval(t)
	if !within(v, maxParts) {
		return api.Term{}
	}
	return v
}

// within reports whether a term has at most so many parts.
func within(t api.Term, limit int) bool { return remaining(t, limit) >= 0 }

// remaining subtracts the number of a term's parts from a limit, but stops below 0.
func remaining(t api.Term, limit int) int {
	limit--
	for _, a := range t.Args {
		if limit < 0 {
			break
		}
		limit = remaining(a, limit)
	}
	return limit
}
