package match_test

import (
	"math/rand/v2"
	"slices"

	"ostler/api"
	"ostler/arith"
	"ostler/term"
)

// random produces terms and bindings.
type random struct{ *rand.Rand }

func newRandom(seed uint64) random { return random{rand.New(rand.NewPCG(seed, 0))} }

func (g random) pick(names ...string) string { return names[g.IntN(len(names))] }

func names() []string { return []string{"V", "X", "XY", "Y", "_", "_1"} }

// value produces a value.
func (g random) value(depth int) api.Term {
	if depth > 1 && g.IntN(3) == 0 {
		return function(g.pick("f", "g"), g.list(g.value, depth-1)...)
	}
	if g.IntN(4) == 0 {
		return symbol(g.pick("a", "b"))
	}
	return number(g.IntN(5) - 1)
}

// pattern produces a valid term.
func (g random) pattern(depth int) api.Term {
	switch {
	case depth > 1 && g.IntN(2) == 0:
		return function(g.pick("f", "g"), g.list(g.pattern, depth-1)...)
	case depth > 1 && g.IntN(3) == 0:
		return g.open(depth)
	case g.IntN(3) > 0:
		return variable(g.pick(names()...))
	}
	return g.value(1)
}

// open produces an operation or an interval.
func (g random) open(depth int) api.Term {
	t := api.Term{Kind: api.TermOp, Name: g.pick("+", "-", "*", "/", "\\"), Args: []api.Term{g.pattern(depth - 1), g.pattern(depth - 1)}}
	if g.IntN(3) == 0 {
		t.Kind, t.Name = api.TermRange, ""
	}
	if t.Name == "-" {
		t.Args = t.Args[:1+g.IntN(2)]
	}
	return t
}

func (g random) list(item func(int) api.Term, depth int) []api.Term {
	l := []api.Term{item(depth)}
	for range g.IntN(4) {
		l = append(l, item(depth))
	}
	return l
}

// binding produces values, most of them integers, for all names.
func (g random) binding() api.Binding {
	var b api.Binding
	for _, name := range names() {
		v := number(g.IntN(4))
		if g.IntN(8) == 0 {
			v = g.value(3)
		}
		b = append(b, pair(name, v))
	}
	return b
}

// some returns some of the pairs of a binding.
func (g random) some(b api.Binding) api.Binding {
	keep := g.IntN(4)
	return slices.DeleteFunc(slices.Clone(b), func(api.Bind) bool { return g.IntN(4) < keep })
}

// change returns a value in which one part is another one.
func (g random) change(v api.Term) api.Term {
	if len(v.Args) == 0 || g.IntN(4) == 0 {
		return g.value(2)
	}
	v.Args = slices.Clone(v.Args)
	i := g.IntN(len(v.Args))
	v.Args[i] = g.change(v.Args[i])
	return v
}

// The functions that follow are a transcription of the chapter's definitions.

// referenceValue returns the value of a name in a binding.
func referenceValue(b api.Binding, name string) (api.Term, bool) {
	for _, x := range b {
		if x.Name == name {
			return x.Val, true
		}
	}
	return api.Term{}, false
}

func referenceApply(t api.Term, b api.Binding) api.Term {
	if v, bound := referenceValue(b, t.Name); bound && t.Kind == api.TermVar {
		return v
	}
	args := slices.Clone(t.Args)
	for i, a := range args {
		args[i] = referenceApply(a, b)
	}
	t.Args = args
	return t
}

func isOpen(t api.Term) bool { return t.Kind == api.TermOp || t.Kind == api.TermRange }

// variablesOf returns the outer variables of a term, or those of its open parts.
func variablesOf(t api.Term, outer bool) []string {
	if isOpen(t) && outer {
		return nil
	}
	if isOpen(t) || t.Kind == api.TermVar && outer {
		return term.Vars(t)
	}
	var l []string
	for _, a := range t.Args {
		l = append(l, variablesOf(a, outer)...)
	}
	slices.Sort(l)
	return slices.Compact(l)
}

// yields reports whether replacing every open part of a term by one of its expansions yields a value.
func yields(t, v api.Term) bool {
	if isOpen(t) {
		expansions, _ := arith.Expand(t)
		return slices.ContainsFunc(expansions, func(x api.Term) bool { return term.Equal(x, v) })
	}
	if t.Kind != v.Kind || t.Num != v.Num || t.Name != v.Name || len(t.Args) != len(v.Args) {
		return false
	}
	for i, a := range t.Args {
		if !yields(a, v.Args[i]) {
			return false
		}
	}
	return true
}

// parts returns all distinct subterms of a value.
func parts(v api.Term) []api.Term {
	l := []api.Term{v}
	for _, a := range v.Args {
		l = append(l, parts(a)...)
	}
	slices.SortFunc(l, term.Compare)
	return slices.CompactFunc(l, term.Equal)
}

// referenceMatches tries all extensions of a binding by parts of the value for the outer variables of a pattern, and returns those with which it yields the value.
func referenceMatches(pattern, v api.Term, b api.Binding) []api.Binding {
	var free []string
	for _, name := range variablesOf(pattern, true) {
		if _, bound := referenceValue(b, name); !bound {
			free = append(free, name)
		}
	}
	var results []api.Binding
	var extend func(b api.Binding, free []string)
	extend = func(b api.Binding, free []string) {
		if len(free) == 0 {
			if yields(referenceApply(pattern, b), v) {
				results = append(results, b)
			}
			return
		}
		for _, x := range parts(v) {
			extend(sorted(append(slices.Clone(b), pair(free[0], x))), free[1:])
		}
	}
	extend(b, free)
	return results
}

func sorted(b api.Binding) api.Binding {
	slices.SortFunc(b, func(x, y api.Bind) int {
		if x.Name < y.Name {
			return -1
		}
		return 1
	})
	return b
}
