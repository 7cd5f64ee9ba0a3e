package finite_test

import (
	"reflect"
	"slices"
	"testing"

	"ostler/api"
	"ostler/finite"
)

// programs calls a function for many random programs.
func programs(t *testing.T, seed uint64, count int, f func(g random, p api.Prog)) {
	t.Helper()
	for _, wild := range []bool{false, true} {
		g := newRandom(seed, wild)
		for range count {
			p := g.program()
			f(g, p)
			if t.Failed() {
				t.Fatalf("%+v", p)
			}
		}
	}
}

// TestRandomPrograms compares the functions with the definitions of the chapter.
func TestRandomPrograms(t *testing.T) {
	restricted, high := 0, 0
	programs(t, 1, 4000, func(g random, p api.Prog) {
		if got, want := finite.Places(p), referencePlaces(p); !slices.Equal(got, want) {
			t.Errorf("Places: %v, want %v", got, want)
		}
		want := referenceResult(p)
		check(t, "a program", p, want)
		if want == none {
			return
		}
		restricted++
		if ranks, _ := finite.Ranks(p); len(ranks) > 0 && slices.Max(ranks) > 1 {
			high++
		}
	})
	if restricted < 4000 || restricted > 7000 || high < 500 {
		t.Error("the samples are one-sided", restricted, high)
	}
}

func TestRandomRankings(t *testing.T) {
	fitting := 0
	programs(t, 2, 1500, func(g random, p api.Prog) {
		least, e := finite.Ranks(p)
		if e != api.OK {
			least = make([]int, len(finite.Places(p)))
		}
		for i := range 10 {
			ranks := slices.Clone(least)
			for k := range ranks {
				ranks[k] += g.IntN(i + 1)
			}
			want := referenceFits(p, ranks)
			checkFits(t, "a program", p, ranks, want)
			if want && len(ranks) > 0 && slices.Max(ranks) > slices.Max(least) {
				fitting++
			}
		}
	})
	if fitting < 5000 || fitting > 25000 {
		t.Error("the samples are one-sided", fitting)
	}
}

// TestLeastRanking examines all rankings up to the greatest rank that P10.4 permits.
func TestLeastRanking(t *testing.T) {
	restricted, not := 0, 0
	programs(t, 3, 6000, func(g random, p api.Prog) {
		n, most := len(finite.Places(p)), greatest(p)
		if n == 0 || n > 3 || most == 0 || most > 6 {
			return
		}
		least := slices.Repeat([]int{most + 1}, n)
		for ranks := range rankings(n, most) {
			if referenceFits(p, ranks) {
				for i, rank := range ranks {
					least[i] = min(least[i], rank)
				}
			}
		}
		if least[0] > most {
			check(t, "a program", p, none)
			not++
		} else {
			check(t, "a program", p, textOf(finite.Places(p), least))
			restricted++
		}
	})
	if restricted < 200 || not < 200 {
		t.Error("the samples are one-sided", restricted, not)
	}
}

// rankings yields all rankings of some places with ranks up to the given one.
func rankings(n, most int) func(yield func([]int) bool) {
	return func(yield func([]int) bool) {
		ranks := make([]int, n)
		for yield(ranks) {
			i := slices.IndexFunc(ranks, func(rank int) bool { return rank < most })
			if i < 0 {
				return
			}
			clear(ranks[:i])
			ranks[i]++
		}
	}
}

// P10.4

func TestGreatestRank(t *testing.T) {
	reached := 0
	programs(t, 4, 4000, func(g random, p api.Prog) {
		ranks, e := finite.Ranks(p)
		if e != api.OK || len(ranks) == 0 {
			return
		}
		most := greatest(p)
		if slices.Max(ranks) > most {
			t.Errorf("the ranks %v exceed %d", ranks, most)
		}
		if 3*slices.Max(ranks) >= most && most > 0 {
			reached++
		}
	})
	if reached < 100 {
		t.Error("only", reached, "programs come near to the greatest rank")
	}
}

// flatten removes the function terms and operations from a term: it returns the first of their arguments that are none.
func flatten(x api.Term) api.Term {
	for (x.Kind == api.TermFun || x.Kind == api.TermOp) && len(x.Args) > 0 {
		x = x.Args[0]
	}
	x.Args = slices.Clone(x.Args)
	for i, arg := range x.Args {
		x.Args[i] = flatten(arg)
	}
	return x
}

func flattenAll(l []api.Term) []api.Term {
	var flat []api.Term
	for _, x := range l {
		flat = append(flat, flatten(x))
	}
	return flat
}

// flattenRule flattens the heads and equations of a rule, but not its atoms.
func flattenRule(r api.Rule) api.Rule {
	flat := func(l []api.Lit) []api.Lit {
		l = slices.Clone(l)
		for i, x := range l {
			l[i].L, l[i].R = flatten(x.L), flatten(x.R)
		}
		return l
	}
	r.Heads, r.Body = slices.Clone(r.Heads), slices.Clone(r.Body)
	for i, h := range r.Heads {
		r.Heads[i] = api.Head{Atom: atom(h.Atom.Pred, flattenAll(h.Atom.Args)...), Cond: flat(h.Cond)}
	}
	for i, b := range r.Body {
		r.Body[i].Lit = flat([]api.Lit{b.Lit})[0]
	}
	return r
}

func TestFlatProgramsHaveNoRanks(t *testing.T) {
	bound, unbound := 0, 0
	programs(t, 5, 3000, func(g random, p api.Prog) {
		for i, r := range p.Rules {
			p.Rules[i] = flattenRule(r)
		}
		zeros := make([]int, len(finite.Places(p)))
		if _, ok := needed(p, zeros); !ok {
			check(t, "a flat program", p, none)
			unbound++
			return
		}
		check(t, "a flat program", p, textOf(finite.Places(p), zeros))
		bound++
	})
	if bound < 3000 || unbound < 200 {
		t.Error("the samples are one-sided", bound, unbound)
	}
}

func TestUnboundHeadVariables(t *testing.T) {
	restricted := 0
	programs(t, 6, 1500, func(g random, p api.Prog) {
		if result(t, p) != none {
			restricted++
		}
		r := g.rule()
		if len(r.Heads) == 0 {
			return
		}
		h := &r.Heads[g.IntN(len(r.Heads))].Atom
		h.Args = append(h.Args, tower(g.IntN(3), variable("Unbound")))
		p.Rules = slices.Insert(p.Rules, g.IntN(len(p.Rules)+1), r)
		check(t, "a program with an unbound variable", p, none)
	})
	if restricted < 1000 {
		t.Error("only", restricted, "programs were argument-restricted before")
	}
}

func TestFewerRules(t *testing.T) {
	lower, restricted := 0, 0
	programs(t, 7, 3000, func(g random, p api.Prog) {
		if len(p.Rules) == 0 {
			return
		}
		i := g.IntN(len(p.Rules))
		fewer := api.Prog{Rules: slices.Delete(slices.Clone(p.Rules), i, i+1)}
		before, e := finite.Ranks(p)
		after, f := finite.Ranks(fewer)
		switch {
		case e != api.OK && f == api.OK:
			restricted++
		case e == api.OK && f != api.OK:
			t.Error("a program is no longer argument-restricted without the rule", i)
		}
		if e != api.OK {
			return
		}
		all := finite.Places(p)
		for k, place := range finite.Places(fewer) {
			was := before[slices.Index(all, place)]
			if after[k] > was {
				t.Errorf("%v: %d without the rule %d, %d with it", place, after[k], i, was)
			}
			if after[k] < was {
				lower++
			}
		}
	})
	if lower < 200 || restricted < 100 {
		t.Error("the samples are one-sided", lower, restricted)
	}
}

// TestOrderDoesNotMatter checks that the rules, heads and premises may have any order.
func TestOrderDoesNotMatter(t *testing.T) {
	programs(t, 8, 2000, func(g random, p api.Prog) {
		want := result(t, p)
		shuffle(g, p.Rules)
		for _, r := range p.Rules {
			shuffle(g, r.Heads)
			shuffle(g, r.Body)
			for _, h := range r.Heads {
				shuffle(g, h.Cond)
			}
		}
		check(t, "a shuffled program", p, want)
	})
}

// R3

// spare returns a copy of a value whose slices all have room for more, be they empty.
func spare(v reflect.Value) reflect.Value {
	c := reflect.New(v.Type()).Elem()
	c.Set(v)
	switch v.Kind() {
	case reflect.Struct:
		for i := range v.NumField() {
			c.Field(i).Set(spare(v.Field(i)))
		}
	case reflect.Slice:
		c.Set(reflect.MakeSlice(v.Type(), v.Len(), v.Len()+2))
		for i := range v.Len() {
			c.Index(i).Set(spare(v.Index(i)))
		}
	}
	return c
}

func withSpare[T any](x T) T { return spare(reflect.ValueOf(x)).Interface().(T) }

// unused reports whether the room of all slices in a value is as spare left it.
func unused(v reflect.Value) bool {
	switch v.Kind() {
	case reflect.Struct:
		for i := range v.NumField() {
			if !unused(v.Field(i)) {
				return false
			}
		}
	case reflect.Slice:
		for i := range v.Cap() {
			item := v.Slice(0, v.Cap()).Index(i)
			if i < v.Len() && !unused(item) || i >= v.Len() && !item.IsZero() {
				return false
			}
		}
	}
	return true
}

func TestArgumentsAreNotChanged(t *testing.T) {
	programs(t, 9, 500, func(g random, p api.Prog) {
		p = withSpare(p)
		ranks := withSpare(make([]int, len(finite.Places(p))))
		for i := range ranks {
			ranks[i] = g.IntN(4)
		}
		for _, x := range []any{p, ranks} {
			before := spare(reflect.ValueOf(x)).Interface()
			finite.Places(p)
			finite.Fits(p, ranks)
			finite.Ranks(p)
			if !reflect.DeepEqual(x, before) || !unused(reflect.ValueOf(x)) {
				t.Errorf("an argument of type %T was changed", x)
			}
		}
	})
}

// TestResultsAreNotShared changes results, and repeats the calls that returned them.
func TestResultsAreNotShared(t *testing.T) {
	p := programOf(t, "p(f(X),X) :- q(X). q(f(1)).")
	for range 2 {
		places := finite.Places(p)
		check(t, "a program", p, "p(1,0) q(0)")
		ranks, _ := finite.Ranks(p)
		if got := textOf(places, ranks); got != "p(1,0) q(0)" {
			t.Error(got)
		}
		for i := range places {
			places[i], ranks[i] = finite.Place{Arg: 7}, 7
		}
	}
}
