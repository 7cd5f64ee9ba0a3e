package match_test

import (
	"reflect"
	"slices"
	"testing"

	"ostler/api"
	"ostler/arith"
	"ostler/match"
	"ostler/term"
)

// sample is a pattern, a binding of all variables, some of its pairs, and an expansion of what the pattern becomes by it, if there is one.
type sample struct {
	pattern   api.Term
	all, some api.Binding
	values    []api.Term
}

// samples calls a function for many random samples.
func samples(t *testing.T, seed uint64, count int, f func(g random, x sample)) {
	t.Helper()
	g := newRandom(seed)
	for range count {
		x := sample{pattern: g.pattern(4), all: g.binding()}
		x.some = g.some(x.all)
		x.values, _ = arith.Expand(referenceApply(x.pattern, x.all))
		f(g, x)
		if t.Failed() {
			t.Fatal(term.String(x.pattern), "in", bindingText(x.some), "of", bindingText(x.all))
		}
	}
}

// TestRandomMatches compares matches with the definition of the chapter.
func TestRandomMatches(t *testing.T) {
	found, missing := 0, 0
	samples(t, 1, 20000, func(g random, x sample) {
		v := g.value(3)
		if len(x.values) > 0 {
			v = x.values[g.IntN(len(x.values))]
		}
		if g.IntN(3) == 0 {
			v = g.change(v)
		}
		if len(parts(v)) > 6 {
			return // too many extensions
		}
		want := referenceMatches(x.pattern, v, x.some)
		b, ok := match.Match(x.pattern, v, x.some)
		if len(want) > 1 || ok != (len(want) == 1) || !ok && len(b) > 0 || ok && !equalBindings(b, want[0]) {
			t.Errorf("%s: %s, %v, want %v", term.String(v), bindingText(b), ok, want)
		}
		if ok {
			found++
		} else {
			missing++
		}
	})
	if found < 1000 || missing < 1000 {
		t.Error("the samples are one-sided", found, missing)
	}
}

// P7.5

func TestResultExtendsTheBinding(t *testing.T) {
	found := 0
	samples(t, 2, 5000, func(g random, x sample) {
		for _, v := range x.values {
			b, ok := match.Match(x.pattern, v, x.some)
			if !ok {
				continue
			}
			found++
			for _, y := range x.some {
				if w, bound := match.Get(b, y.Name); !bound || !term.Equal(w, y.Val) {
					t.Errorf("%s: %s is not bound", bindingText(b), y.Name)
				}
			}
			if !match.Valid(b) {
				t.Error(bindingText(b))
			}
		}
	})
	if found < 1000 {
		t.Error("only", found, "matches")
	}
}

// TestOrderOfArgumentsDoesNotMatter permutes the arguments of a pattern and those of a value in the same way.
func TestOrderOfArgumentsDoesNotMatter(t *testing.T) {
	found := 0
	samples(t, 3, 20000, func(g random, x sample) {
		if x.pattern.Kind != api.TermFun || len(x.values) == 0 {
			return
		}
		v := x.values[g.IntN(len(x.values))]
		if g.IntN(4) == 0 {
			v.Args = slices.Clone(v.Args)
			i := g.IntN(len(v.Args))
			v.Args[i] = g.change(v.Args[i])
		}
		b, ok := match.Match(x.pattern, v, x.some)
		p, w := api.Atom{Pred: "p"}, api.Atom{Pred: "p"}
		for _, i := range g.Perm(len(v.Args)) {
			p.Args, w.Args = append(p.Args, x.pattern.Args[i]), append(w.Args, v.Args[i])
		}
		c, also := match.Match(function("h", p.Args...), function("h", w.Args...), x.some)
		d, asAtom := match.MatchAtom(p, w, x.some)
		if also != ok || asAtom != ok || !equalBindings(b, c) || !equalBindings(b, d) {
			t.Errorf("%s: %s, %s and %s", term.String(v), bindingText(b), bindingText(c), bindingText(d))
		}
		if ok {
			found++
		}
	})
	if found < 1000 {
		t.Error("only", found, "matches")
	}
}

// TestExpansionsMatch checks that a pattern matches what it can become.
func TestExpansionsMatch(t *testing.T) {
	found := 0
	samples(t, 4, 20000, func(g random, x sample) {
		b := g.some(x.all)
		known := variablesOf(x.pattern, true)
		want := slices.DeleteFunc(slices.Clone(x.all), func(y api.Bind) bool {
			_, bound := referenceValue(b, y.Name)
			return !bound && !slices.Contains(known, y.Name)
		})
		for _, name := range variablesOf(x.pattern, false) {
			if _, there := referenceValue(want, name); !there {
				return
			}
		}
		expansions, _ := arith.Expand(match.Apply(x.pattern, x.all))
		for _, v := range expansions {
			found++
			if got, ok := match.Match(x.pattern, v, b); !ok || !equalBindings(got, want) {
				t.Errorf("%s in %s: %s, %v", term.String(v), bindingText(b), bindingText(got), ok)
			}
		}
	})
	if found < 5000 {
		t.Error("only", found, "expansions")
	}
}

func TestRandomApply(t *testing.T) {
	samples(t, 5, 5000, func(g random, x sample) {
		if got := match.Apply(x.pattern, x.some); !term.Equal(got, referenceApply(x.pattern, x.some)) {
			t.Error(term.String(got))
		}
	})
}

// R3

// block is the memory of a slice.
type block struct{ from, to uintptr }

// memory returns the memory of all slices in a value.
func memory(v reflect.Value) []block {
	var l []block
	switch v.Kind() {
	case reflect.Struct:
		for i := range v.NumField() {
			l = append(l, memory(v.Field(i))...)
		}
	case reflect.Slice:
		if v.Cap() > 0 {
			l = append(l, block{v.Pointer(), v.Pointer() + uintptr(v.Cap())*v.Type().Elem().Size()})
		}
		for i := range v.Len() {
			l = append(l, memory(v.Index(i))...)
		}
	}
	return l
}

// spare returns a copy of a value whose slices all have room for more, be they empty.
func spare(v reflect.Value) reflect.Value {
	c := reflect.New(v.Type()).Elem()
	c.Set(v)
	switch v.Kind() {
	case reflect.Struct:
		for i := range v.NumField() {
			c.Field(i).Set(spare(v.Field(i)))
		}
	case reflect.Slice:
		c.Set(reflect.MakeSlice(v.Type(), v.Len(), v.Len()+2))
		for i := range v.Len() {
			c.Index(i).Set(spare(v.Index(i)))
		}
	}
	return c
}

func withSpare[T any](x T) T { return spare(reflect.ValueOf(x)).Interface().(T) }

// unused reports whether the room of all slices in a value is as spare left it.
func unused(v reflect.Value) bool {
	switch v.Kind() {
	case reflect.Struct:
		for i := range v.NumField() {
			if !unused(v.Field(i)) {
				return false
			}
		}
	case reflect.Slice:
		for i := range v.Cap() {
			item := v.Slice(0, v.Cap()).Index(i)
			if i < v.Len() && !unused(item) || i >= v.Len() && !item.IsZero() {
				return false
			}
		}
	}
	return true
}

// checkMemory checks that no two slices of the values share memory.
func checkMemory(t *testing.T, call string, values ...any) {
	t.Helper()
	var l []block
	for _, v := range values {
		l = append(l, memory(reflect.ValueOf(v))...)
	}
	slices.SortFunc(l, func(a, b block) int { return int(a.from) - int(b.from) })
	for i := range len(l) - 1 {
		if l[i].to > l[i+1].from {
			t.Error(call, "two slices share memory")
		}
	}
}

func TestMemoryIsNotShared(t *testing.T) {
	samples(t, 6, 500, func(g random, x sample) {
		v := g.value(3)
		if len(x.values) > 0 {
			v = x.values[0]
		}
		p, v, b := withSpare(x.pattern), withSpare(v), withSpare(x.some)
		l := withSpare(api.Lit{Kind: api.LitAtom, Atom: atom("p", p, p), L: p, R: p})
		w := withSpare(atom("p", v, v))
		broken := append(slices.Clone(b), pair("A", v), pair("A", v))
		broken = withSpare(broken)
		args := []any{p, v, b, l, w, broken}
		var before []any
		for _, a := range args {
			before = append(before, spare(reflect.ValueOf(a)).Interface())
		}
		checkCalls(t, p, v, b, l, w, broken, args)
		for i, a := range args {
			if !reflect.DeepEqual(a, before[i]) || !unused(reflect.ValueOf(a)) {
				t.Errorf("argument %d was changed", i)
			}
		}
	})
}

// checkCalls checks the memory of the results of all functions.
func checkCalls(t *testing.T, p, v api.Term, b api.Binding, l api.Lit, w api.Atom, broken api.Binding, args []any) {
	check := func(call string, results ...any) {
		t.Helper()
		checkMemory(t, call, append(results, args...)...)
	}
	for _, c := range []api.Binding{b, nil, broken} {
		check("Apply", match.Apply(p, c), match.Apply(p, c))
		check("ApplyAtom", match.ApplyAtom(l.Atom, c), match.ApplyAtom(l.Atom, c))
		check("ApplyLit", match.ApplyLit(l, c), match.ApplyLit(l, c))
		first, _ := match.Match(p, v, c)
		second, _ := match.Match(p, v, c)
		check("Match", first, second)
		first, _ = match.MatchAtom(l.Atom, w, c)
		second, _ = match.MatchAtom(l.Atom, w, c)
		check("MatchAtom", first, second)
		for _, name := range names() {
			x, _ := match.Get(c, name)
			y, _ := match.Get(c, name)
			check("Get", x, y)
			first, _ = match.Bind(c, name, v)
			second, _ = match.Bind(c, name, v)
			check("Bind", first, second)
			first, _ = match.Bind(c, name, x)
			check("Bind to the same value", first, x)
		}
	}
}
