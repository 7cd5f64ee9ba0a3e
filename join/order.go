package join

import (
	"slices"

	"ostler/api"
	"ostler/term"
)

// satisfies reports whether two terms satisfy an operator.
func satisfies(op uint8, a, b api.Term) bool {
	tests := [...]func(order int) bool{
		api.OpEq: func(order int) bool { return order == 0 },
		api.OpNe: func(order int) bool { return order != 0 },
		api.OpLt: func(order int) bool { return order < 0 },
		api.OpLe: func(order int) bool { return order <= 0 },
		api.OpGt: func(order int) bool { return order > 0 },
		api.OpGe: func(order int) bool { return order >= 0 },
	}
	if int(op) >= len(tests) || tests[op] == nil {
		return false
	}
	return tests[op](term.Compare(a, b))
}

// holds reports whether an operator is satisfied by some value of each of two lists, which are in increasing order. For all operators but equality it is enough to compare the values that are farthest apart.
func holds(op uint8, a, b []api.Term) bool {
	if len(a) == 0 || len(b) == 0 {
		return false
	}
	if op == api.OpEq {
		return slices.ContainsFunc(a, func(v api.Term) bool {
			_, found := slices.BinarySearchFunc(b, v, term.Compare)
			return found
		})
	}
	return satisfies(op, a[0], b[len(b)-1]) || satisfies(op, a[len(a)-1], b[0])
}
