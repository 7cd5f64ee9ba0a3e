package safety_test

import (
	"reflect"
	"slices"
	"testing"

	"ostler/api"
	"ostler/arith"
	"ostler/format"
	"ostler/match"
	"ostler/safety"
	"ostler/term"
)

// rules calls a function for many random rules.
func rules(t *testing.T, seed uint64, count int, f func(g random, r api.Rule)) {
	t.Helper()
	for _, wild := range []bool{false, true} {
		g := newRandom(seed, wild)
		for range count {
			r := g.rule()
			f(g, r)
			if t.Failed() {
				src, _ := format.Rule(r)
				t.Fatalf("%q: %+v", src, r)
			}
		}
	}
}

// TestRandomRules compares the functions with the definitions of the chapter.
func TestRandomRules(t *testing.T) {
	safe, unsafe := 0, 0
	rules(t, 1, 5000, func(g random, r api.Rule) {
		want := text(referenceUnsafe(r))
		checkRule(t, "a rule", r, text(referenceGlobal(r)), want)
		if want == "" {
			safe++
		} else {
			unsafe++
		}
	})
	if safe < 500 || unsafe < 500 {
		t.Error("the samples are one-sided", safe, unsafe)
	}
}

func TestRandomLiterals(t *testing.T) {
	more := 0
	for _, wild := range []bool{false, true} {
		g := newRandom(2, wild)
		for range 10000 {
			l := slices.Concat(g.literals(), g.literals())
			given := variablesOf(some(g, 2, g.variable))
			want := referenceBound(l, given)
			if got := safety.Bound(l, given); !slices.Equal(got, want) {
				t.Fatalf("%+v given %q: %q, want %q", l, given, got, want)
			}
			if len(want) > len(given) {
				more++
			}
		}
	}
	if more < 5000 {
		t.Error("only", more, "lists of literals bind a variable")
	}
}

func TestRandomPrograms(t *testing.T) {
	safe := 0
	for _, wild := range []bool{false, true} {
		g := newRandom(3, wild)
		for range 2000 {
			p := api.Prog{Rules: some(g, 4, g.saferRule)}
			want := !slices.ContainsFunc(p.Rules, func(r api.Rule) bool { return len(referenceUnsafe(r)) > 0 })
			checkSafe(t, "a program", p, want)
			if want && len(p.Rules) > 1 {
				safe++
			}
		}
	}
	if safe < 100 {
		t.Error("only", safe, "safe programs")
	}
}

// P8.3

func TestOrderDoesNotMatter(t *testing.T) {
	rules(t, 4, 3000, func(g random, r api.Rule) {
		want := text(safety.Unsafe(r))
		global := text(safety.Global(r))
		shuffle(g, r.Body)
		shuffle(g, r.Heads)
		for i := range r.Body {
			shuffle(g, r.Body[i].Cond)
			shuffle(g, r.Body[i].Elems)
		}
		checkRule(t, "a shuffled rule", r, global, want)
	})
}

func shuffle[T any](g random, l []T) {
	g.Shuffle(len(l), func(i, k int) { l[i], l[k] = l[k], l[i] })
}

func TestPositiveLiteralsMakeSafe(t *testing.T) {
	repaired := 0
	rules(t, 5, 3000, func(g random, r api.Rule) {
		before := safety.Unsafe(r)
		args := some(g, 3, g.variable)
		q := r
		q.Body = slices.Insert(slices.Clone(r.Body), g.IntN(len(r.Body)+1), bodyLit(positive("q", args...)))
		after := safety.Unsafe(q)
		for _, name := range after {
			if !slices.Contains(before, name) {
				t.Errorf("%s becomes unsafe", name)
			}
			if slices.Contains(variablesOf(args), name) {
				t.Errorf("%s is still unsafe", name)
			}
		}
		if len(after) < len(before) {
			repaired++
		}
	})
	if repaired < 600 {
		t.Error("only", repaired, "rules changed")
	}
}

// TestBindingsDetermineVariables checks, in a small domain, that no two solutions of the equations of a safe rule agree on the variables of its positive literals.
func TestBindingsDetermineVariables(t *testing.T) {
	g := newRandom(6, false)
	solved, several := 0, 0
	for range 2000 {
		r := g.equational()
		bound := boundByAtoms(r)
		found := map[string]int{}
		for b := range solutions(r, safety.Global(r)) {
			key := ""
			for _, name := range bound {
				v, _ := match.Get(b, name)
				key += name + "=" + term.String(v) + " "
			}
			found[key]++
		}
		unique := true
		for _, count := range found {
			unique = unique && count == 1
		}
		safe := len(safety.Unsafe(r)) == 0
		if safe && !unique {
			src, _ := format.Rule(r)
			t.Error(src, "is safe")
		}
		if safe && len(found) > 0 {
			solved++
		}
		if !unique {
			several++
		}
	}
	if solved < 200 || several < 200 {
		t.Error("the samples are one-sided", solved, several)
	}
}

// boundByAtoms returns the variables of the atoms of a body.
func boundByAtoms(r api.Rule) []string {
	var atoms []api.Atom
	for _, b := range r.Body {
		atoms = append(atoms, b.Lit.Atom)
	}
	return variablesOf(atoms)
}

// solutions yields the bindings of variables to small integers in which the equations of a rule are true.
func solutions(r api.Rule, names []string) func(yield func(api.Binding) bool) {
	return func(yield func(api.Binding) bool) {
		var extend func(b api.Binding) bool
		extend = func(b api.Binding) bool {
			if len(b) == len(names) {
				return !solves(r, b) || yield(b)
			}
			for n := range 4 {
				if !extend(append(slices.Clone(b), api.Bind{Name: names[len(b)], Val: number(n)})) {
					return false
				}
			}
			return true
		}
		extend(nil)
	}
}

func solves(r api.Rule, b api.Binding) bool {
	for _, x := range r.Body {
		left, _ := arith.Eval(match.Apply(x.Lit.L, b))
		right, _ := arith.Eval(match.Apply(x.Lit.R, b))
		if x.Lit.Kind == api.LitComp && !match.Test(x.Lit.Op, left, right) {
			return false
		}
	}
	return true
}

// R3

// spare returns a copy of a value whose slices all have room for more, be they empty.
func spare(v reflect.Value) reflect.Value {
	c := reflect.New(v.Type()).Elem()
	c.Set(v)
	switch v.Kind() {
	case reflect.Struct:
		for i := range v.NumField() {
			c.Field(i).Set(spare(v.Field(i)))
		}
	case reflect.Slice:
		c.Set(reflect.MakeSlice(v.Type(), v.Len(), v.Len()+2))
		for i := range v.Len() {
			c.Index(i).Set(spare(v.Index(i)))
		}
	}
	return c
}

func withSpare[T any](x T) T { return spare(reflect.ValueOf(x)).Interface().(T) }

// unused reports whether the room of all slices in a value is as spare left it.
func unused(v reflect.Value) bool {
	switch v.Kind() {
	case reflect.Struct:
		for i := range v.NumField() {
			if !unused(v.Field(i)) {
				return false
			}
		}
	case reflect.Slice:
		for i := range v.Cap() {
			item := v.Slice(0, v.Cap()).Index(i)
			if i < v.Len() && !unused(item) || i >= v.Len() && !item.IsZero() {
				return false
			}
		}
	}
	return true
}

func TestArgumentsAreNotChanged(t *testing.T) {
	rules(t, 7, 500, func(g random, r api.Rule) {
		p := withSpare(api.Prog{Rules: []api.Rule{r, g.rule()}})
		l := withSpare(g.literals())
		given := withSpare([]string{"Z", "X", "Y", "X"})
		for _, x := range []any{p, l, given} {
			before := spare(reflect.ValueOf(x)).Interface()
			safety.Safe(p)
			safety.Global(p.Rules[0])
			safety.Unsafe(p.Rules[0])
			safety.Bound(l, given)
			if !reflect.DeepEqual(x, before) || !unused(reflect.ValueOf(x)) {
				t.Errorf("an argument of type %T was changed", x)
			}
		}
	})
}

// TestResultsAreNotShared changes results, and repeats the calls that returned them.
func TestResultsAreNotShared(t *testing.T) {
	r := ruleOf(t, "p(X,Y,Z) :- not q(X,Y,Z).")
	l := literalsOf(t, "p(Y,Z)")
	given := []string{"X", "Y"}
	for range 2 {
		for call, result := range map[string][]string{"Global": safety.Global(r), "Unsafe": safety.Unsafe(r), "Bound": safety.Bound(l, given), "Bound by nothing": safety.Bound(nil, []string{"X", "Y", "Z"})} {
			checkNames(t, call, result, "X Y Z")
			result = result[:cap(result)]
			for i := range result {
				result[i] = "W"
			}
		}
	}
	checkNames(t, "what was given", given, "X Y")
}
