package depend_test

import (
	"reflect"
	"slices"
	"testing"

	"ostler/api"
	"ostler/depend"
)

// programs calls a function for many random programs.
func programs(t *testing.T, seed uint64, count int, f func(g random, p api.Prog)) {
	t.Helper()
	for _, wild := range []bool{false, true} {
		g := newRandom(seed, wild)
		for range count {
			p := g.program()
			f(g, p)
			if t.Failed() {
				t.Fatalf("%+v", p)
			}
		}
	}
}

// TestRandomPrograms compares the functions with the definitions of the chapter.
func TestRandomPrograms(t *testing.T) {
	known, recursive, conds := 0, 0, map[api.Errno]int{}
	programs(t, 1, 1500, func(g random, p api.Prog) {
		want := reference(p)
		check(t, "a program", p, want)
		if want.domain != "" && want.domain != want.sigs {
			known++
		}
		if want.recursive != "" && want.recursive != want.components {
			recursive++
		}
		e := referenceConds(p)
		checkConds(t, "a program", p, e)
		conds[e]++
	})
	if known < 1000 || recursive < 500 || conds[api.OK] < 300 || conds[depend.ErrCond] < 300 {
		t.Error("the samples are one-sided", known, recursive, conds)
	}
}

func TestRecursiveOfRandomSlices(t *testing.T) {
	count := 0
	programs(t, 2, 1500, func(g random, p api.Prog) {
		for range 5 {
			slice := some(g, 0, 5, func() api.Sig { return predicateOf(g.atom()) })
			want := referenceRecursive(p, slice)
			if got := depend.Recursive(p, slice); got != want {
				t.Errorf("Recursive of %s: %v", sigsText(slice), got)
			}
			if want {
				count++
			}
		}
	})
	if count < 1000 || count > 14000 {
		t.Error("the samples are one-sided", count)
	}
}

func TestLessIsStrict(t *testing.T) {
	programs(t, 3, 200, func(g random, p api.Prog) {
		l := depend.Sigs(p)
		for i, a := range l {
			for k, b := range l {
				if depend.Less(a, b) != (i < k) {
					t.Errorf("Less(%v, %v)", a, b)
				}
			}
		}
	})
}

// P9.5

func TestComponentsPartition(t *testing.T) {
	large := 0
	programs(t, 4, 1000, func(g random, p api.Prog) {
		reach := reaching(p)
		var all []api.Sig
		for _, c := range depend.Components(p) {
			for _, a := range c {
				for _, b := range depend.Sigs(p) {
					together := reach[[2]api.Sig{a, b}] && reach[[2]api.Sig{b, a}]
					if together != slices.Contains(c, b) {
						t.Errorf("%v and %v: %v", a, b, together)
					}
				}
			}
			all = append(all, c...)
			if len(c) > 1 {
				large++
			}
		}
		slices.SortFunc(all, func(a, b api.Sig) int { return slices.Index(depend.Sigs(p), a) - slices.Index(depend.Sigs(p), b) })
		same(t, "the members of components", sigsText(all), sigsText(depend.Sigs(p)))
	})
	if large < 200 {
		t.Error("only", large, "components have several members")
	}
}

func TestDomainIsStratified(t *testing.T) {
	negative := 0
	programs(t, 5, 1500, func(g random, p api.Prog) {
		place := map[api.Sig]int{}
		for i, c := range depend.Components(p) {
			for _, s := range c {
				place[s] = i
			}
		}
		known := depend.Domain(p)
		for _, e := range depend.Edges(p) {
			if place[e.To] > place[e.From] {
				t.Errorf("%v leads to a later component", e)
			}
			if !slices.Contains(known, e.From) {
				continue
			}
			if !slices.Contains(known, e.To) {
				t.Errorf("%v leads out of the domain predicates", e)
			}
			if e.Neg && place[e.To] >= place[e.From] {
				t.Errorf("%v is not stratified", e)
			}
			if e.Neg {
				negative++
			}
		}
	})
	if negative < 300 {
		t.Error("only", negative, "negative edges of domain predicates")
	}
}

func TestRulesAddNoDomainPredicate(t *testing.T) {
	fewer := 0
	programs(t, 6, 2000, func(g random, p api.Prog) {
		known := depend.Domain(p)
		q := api.Prog{Rules: slices.Insert(slices.Clone(p.Rules), g.IntN(len(p.Rules)+1), g.rule())}
		after := depend.Domain(q)
		for _, s := range depend.Sigs(p) {
			switch was, is := slices.Contains(known, s), slices.Contains(after, s); {
			case is && !was:
				t.Errorf("%v becomes a domain predicate", s)
			case was && !is:
				fewer++
			}
		}
	})
	if fewer < 500 {
		t.Error("only", fewer, "predicates are domain predicates no longer")
	}
}

func TestOrderOfRulesDoesNotMatter(t *testing.T) {
	programs(t, 7, 1000, func(g random, p api.Prog) {
		want, conds := results(p), depend.Conds(p)
		shuffle(g, p.Rules)
		for _, r := range p.Rules {
			shuffle(g, r.Heads)
			shuffle(g, r.Body)
		}
		check(t, "a shuffled program", p, want)
		checkConds(t, "a shuffled program", p, conds)
		p.Rules = append(p.Rules, p.Rules...)
		check(t, "a doubled program", p, want)
		checkConds(t, "a doubled program", p, conds)
	})
}

func shuffle[T any](g random, l []T) {
	g.Shuffle(len(l), func(i, k int) { l[i], l[k] = l[k], l[i] })
}

// R3

// spare fills the capacity of the slices of a program behind their lengths with a mark, or checks that it is still there.
func spare(t *testing.T, p *api.Prog, fill bool) {
	visit(reflect.ValueOf(p).Elem(), func(beyond reflect.Value) {
		mark := reflect.New(beyond.Type()).Elem()
		if fill {
			markIn(mark)
			beyond.Set(mark)
			return
		}
		markIn(mark)
		if !reflect.DeepEqual(beyond.Interface(), mark.Interface()) {
			t.Error("the capacity of a slice is modified")
		}
	})
}

// markIn sets the first field that is a number or a text.
func markIn(v reflect.Value) {
	switch v.Kind() {
	case reflect.Struct:
		for i := range v.NumField() {
			markIn(v.Field(i))
		}
	case reflect.Uint8:
		v.SetUint(99)
	case reflect.String:
		v.SetString("mark")
	}
}

// visit calls a function for the element behind each slice that has a capacity for it.
func visit(v reflect.Value, f func(beyond reflect.Value)) {
	switch v.Kind() {
	case reflect.Struct:
		for i := range v.NumField() {
			visit(v.Field(i), f)
		}
	case reflect.Slice:
		for i := range v.Len() {
			visit(v.Index(i), f)
		}
		if v.Cap() > v.Len() {
			f(v.Slice(0, v.Len()+1).Index(v.Len()))
		}
	}
}

func TestArgumentsAreNotModified(t *testing.T) {
	g, h := newRandom(8, true), newRandom(8, true)
	for range 500 {
		p, q := g.program(), h.program()
		spare(t, &p, true)
		slice := []api.Sig{sig("f/0"), sig("a/1"), sig("a/0"), sig("z/9")}
		results(p)
		depend.Conds(p)
		depend.Recursive(p, slice[:3])
		spare(t, &p, false)
		if !reflect.DeepEqual(p, q) || sigsText(slice) != "f/0 a/1 a/0 z/9" {
			t.Fatal("an argument is modified")
		}
	}
}

func TestResultsShareNoMemory(t *testing.T) {
	programs(t, 9, 300, func(g random, p api.Prog) {
		want := results(p)
		clobber(depend.Sigs(p))
		clobber(depend.Edges(p))
		clobber(depend.Domain(p))
		for i := range depend.Components(p) {
			components := depend.Components(p)
			text := sigsText(components[i])
			for k, c := range components {
				if i != k {
					clobber(c)
				}
			}
			same(t, "a component", sigsText(components[i]), text)
		}
		check(t, "the same program", p, want)
	})
}

// clobber overwrites a slice up to its capacity.
func clobber[T any](l []T) { clear(l[:cap(l)]) }
