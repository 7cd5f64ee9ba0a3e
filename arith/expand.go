package arith

import (
	"iter"
	"maps"
	"slices"

	"ostler/api"
	"ostler/term"
)

// Eval evaluates a ground term without intervals.
func Eval(t api.Term) (api.Term, bool) {
	if hasInterval(t) {
		return api.Term{}, false
	}
	values, _ := Expand(t)
	if len(values) == 0 {
		return api.Term{}, false
	}
	return values[0], true
}

func hasInterval(t api.Term) bool {
	return t.Kind == api.TermRange || slices.ContainsFunc(t.Args, hasInterval)
}

// Expand returns the expansions of a ground term.
func Expand(t api.Term) (values []api.Term, e api.Errno) {
	if !term.Valid(t) || !term.Ground(t) {
		return nil, api.ErrArg
	}
	defer func() {
		if recover() != nil {
			values, e = nil, api.ErrMany
		}
	}()
	values = expand(t)
	for i, v := range values {
		values[i] = detach(v)
	}
	return values, api.OK
}

// expand returns the expansions of a valid ground term in increasing order, and panics if there are too many for it or a subterm. Values may share their arguments.
func expand(t api.Term) []api.Term {
	switch t.Kind {
	case api.TermFun:
		return expandFunction(t)
	case api.TermOp:
		return expandOperation(t)
	case api.TermRange:
		return expandInterval(t)
	}
	return []api.Term{{Kind: t.Kind, Num: t.Num, Name: t.Name}}
}

// detach copies the arguments of a term, on all levels.
func detach(t api.Term) api.Term {
	var args []api.Term
	for _, a := range t.Args {
		args = append(args, detach(a))
	}
	t.Args = args
	return t
}

// limit is called with the number of the expansions found so far, before they take up more time and memory than allowed.
func limit(expansions int) {
	if expansions > api.MaxRange {
		panic(api.ErrMany)
	}
}

// expandFunction need not sort: the values have one name and arity, and so are in the order of their arguments.
func expandFunction(t api.Term) []api.Term {
	var lists [][]api.Term
	for _, a := range t.Args {
		lists = append(lists, expand(a))
	}
	var values []api.Term
	for args := range combinations(lists) {
		limit(len(values) + 1)
		values = append(values, api.Term{Kind: api.TermFun, Name: t.Name, Args: slices.Clone(args)})
	}
	return values
}

func expandOperation(t api.Term) []api.Term {
	var lists [][]int
	for _, a := range t.Args {
		lists = append(lists, integers(expand(a)))
	}
	o := operations()[sign{t.Name, len(t.Args)}]
	results := map[int]bool{}
	for operands := range combinations(lists) {
		if n, defined := o.apply(operands...); defined && !results[n] {
			limit(len(results) + 1)
			results[n] = true
		}
	}
	var values []api.Term
	for _, n := range slices.Sorted(maps.Keys(results)) {
		values = append(values, integer(n))
	}
	return values
}

func expandInterval(t api.Term) []api.Term {
	from, to := integers(expand(t.Args[0])), integers(expand(t.Args[1]))
	if len(from) == 0 || len(to) == 0 {
		return nil
	}
	least, greatest := from[0], to[len(to)-1]
	limit(greatest - least + 1)
	var values []api.Term
	for n := least; n <= greatest; n++ {
		values = append(values, integer(n))
	}
	return values
}

func integer(n int) api.Term { return api.Term{Kind: api.TermInt, Num: n} }

// integers returns the numbers of those values that are integers.
func integers(values []api.Term) []int {
	var numbers []int
	for _, v := range values {
		if v.Kind == api.TermInt {
			numbers = append(numbers, v.Num)
		}
	}
	return numbers
}

// combinations yields all choices of one item from each list, in the order of the items, the first list's first. Each choice overwrites the one before it.
func combinations[T any](lists [][]T) iter.Seq[[]T] {
	return func(yield func([]T) bool) {
		// One empty list leaves no choice, but the choices from long lists before it would be tried in vain.
		if slices.ContainsFunc(lists, func(l []T) bool { return len(l) == 0 }) {
			return
		}
		choose(lists, make([]T, 0, len(lists)), yield)
	}
}

// choose completes a choice, and reports whether to go on.
func choose[T any](lists [][]T, choice []T, yield func([]T) bool) bool {
	if len(choice) == len(lists) {
		return yield(choice)
	}
	for _, item := range lists[len(choice)] {
		if !choose(lists, append(choice, item), yield) {
			return false
		}
	}
	return true
}
