package derive_test

import (
	"reflect"
	"slices"
	"sync"
	"testing"

	"ostler/api"
	"ostler/derive"
	"ostler/join"
	"ostler/store"
	"ostler/term"
)

// R1, R3 and R7

// wild produces a term that need not be valid.
func (g random) wild(depth int) api.Term {
	t := api.Term{Kind: uint8(g.IntN(8))}
	if g.flag(2) {
		t.Name = g.pick("", "X", "Y", "a", "#1", "#2", "f", "+", "-", "not")
	}
	if g.flag(4) {
		t.Num = g.IntN(3) - 1
	}
	if depth > 0 && g.flag(2) {
		for range g.IntN(4) {
			t.Args = append(t.Args, g.wild(depth-1))
		}
	}
	return t
}

func (g random) side() api.Term {
	if g.flag(3) {
		return variable(g.pick("X", "Y", "#1", "#2", "_"))
	}
	return g.wild(2)
}

func (g random) changeLit(l *api.Lit) {
	switch g.IntN(8) {
	case 0:
		l.L = g.side()
	case 1:
		l.R = g.side()
	case 2, 3:
		l.Atom.Args = append(slices.Clone(l.Atom.Args), g.side())
	case 4:
		l.Atom.Pred = g.pick("", "P", "p", "q", "not", "#1", "w")
	case 5:
		l.Kind = uint8(g.IntN(4))
	case 6:
		l.Op = uint8(g.IntN(9))
	case 7:
		l.Not = !l.Not
	}
}

func (g random) changeLits(l []api.Lit) []api.Lit {
	l = slices.Clone(l)
	if len(l) == 0 {
		return append(l, positive(g.pick("d", "e", "p"), g.side()))
	}
	g.changeLit(&l[g.IntN(len(l))])
	return l
}

func (g random) changeBody(b *api.Body) {
	switch g.IntN(8) {
	case 0:
		b.Kind = uint8(g.IntN(5))
	case 1:
		b.Not = !b.Not
	case 2:
		b.Fun, b.Op = uint8(g.IntN(4)), uint8(g.IntN(8))
	case 3:
		b.Bound = g.side()
	case 4:
		b.Cond = g.changeLits(b.Cond)
	case 5:
		b.Elems = append(slices.Clone(b.Elems), api.Elem{Tuple: []api.Term{g.side()}, Cond: g.changeLits(nil)})
	default:
		g.changeLit(&b.Lit)
	}
}

func (g random) changeRule(r *api.Rule) {
	switch n := g.IntN(12); {
	case n == 0:
		r.Kind = uint8(g.IntN(5))
	case n == 1:
		r.Lower = g.side()
	case n == 2:
		r.Upper = g.side()
	case n == 3:
		r.Weight, r.Level = g.side(), g.side()
	case n == 4:
		r.Tuple = append(slices.Clone(r.Tuple), g.side())
	case n < 7 && len(r.Heads) > 0:
		l := api.Lit{Kind: api.LitAtom, Atom: r.Heads[0].Atom}
		g.changeLit(&l)
		r.Heads[0].Atom = l.Atom
	case n == 7 && len(r.Heads) > 0:
		r.Heads[0].Cond = g.changeLits(r.Heads[0].Cond)
	case len(r.Body) > 0:
		g.changeBody(&r.Body[g.IntN(len(r.Body))])
	}
}

// wildProgram produces a program that need not be valid, in which variables may have names that begin with #.
func (g random) wildProgram(t *testing.T) api.Prog {
	p := programOf(t, g.program())
	for i := range p.Rules {
		if g.flag(3) {
			renameRule(&p.Rules[i], "X", g.pick("#1", "#2"))
		}
		for g.flag(5) {
			g.changeRule(&p.Rules[i])
		}
	}
	return p
}

func validTerm(t api.Term) bool { return term.Valid(renamed(t, "#", "X")) }

// referenceValid reports whether a rule is derivable, by the words of the chapter.
func referenceValid(r api.Rule) bool {
	valid := 1 <= r.Kind && r.Kind <= 3
	for _, h := range r.Heads {
		valid = valid && term.Symbol(h.Atom.Pred) && len(h.Atom.Args) <= 8 && join.Valid(h.Cond)
		for _, t := range h.Atom.Args {
			valid = valid && validTerm(t)
		}
	}
	for _, b := range r.Body {
		switch b.Kind {
		case api.BodyLit:
			valid = valid && join.Valid([]api.Lit{b.Lit})
		case api.BodyCond:
			valid = valid && join.Valid([]api.Lit{b.Lit}) && join.Valid(b.Cond)
		case api.BodyAgg:
			valid = valid && validTerm(b.Bound)
			for _, e := range b.Elems {
				valid = valid && join.Valid(e.Cond) && !slices.ContainsFunc(e.Tuple, func(t api.Term) bool { return !validTerm(t) })
			}
		default:
			valid = false
		}
	}
	if r.Kind == api.RuleChoice {
		valid = valid && (r.Lower.Kind == 0 || validTerm(r.Lower)) && (r.Upper.Kind == 0 || validTerm(r.Upper))
	}
	if r.Kind == api.RuleWeak {
		valid = valid && validTerm(r.Weight) && validTerm(r.Level) && !slices.ContainsFunc(r.Tuple, func(t api.Term) bool { return !validTerm(t) })
	}
	return valid
}

// TestArbitraryPrograms checks validity, safety and results of arbitrary programs.
func TestArbitraryPrograms(t *testing.T) {
	g := newRandom(7)
	count := map[api.Errno]int{}
	for range 4000 {
		p := g.wildProgram(t)
		saved := deepCopy(p)
		valid := true
		for _, r := range p.Rules {
			one := referenceValid(r)
			valid = valid && one
			if derive.Safe(r) != (one && referenceSafe(r)) {
				t.Fatalf("%+v", r)
			}
		}
		if derive.Valid(p) != valid {
			t.Fatalf("%+v: %v", p, !valid)
		}
		_, _, e := checkReference(t, "a program", p)
		if count[e]++; t.Failed() {
			t.Fatalf("%+v", p)
		}
		if !reflect.DeepEqual(p, saved) {
			t.Fatalf("%+v, want %+v", p, saved)
		}
	}
	if count[api.OK] < 500 || count[api.ErrArg] < 500 || count[join.ErrUnsafe] < 150 {
		t.Error("the samples are one-sided", count)
	}
}

// deepCopy returns a copy that shares no memory with its argument.
func deepCopy[T any](x T) T {
	return copyValue(reflect.ValueOf(&x).Elem()).Interface().(T)
}

func copyValue(v reflect.Value) reflect.Value {
	switch {
	case v.Kind() == reflect.Slice && !v.IsNil():
		l := reflect.MakeSlice(v.Type(), v.Len(), v.Len())
		for i := range v.Len() {
			l.Index(i).Set(copyValue(v.Index(i)))
		}
		return l
	case v.Kind() == reflect.Struct:
		s := reflect.New(v.Type()).Elem()
		for i := range v.NumField() {
			s.Field(i).Set(copyValue(v.Field(i)))
		}
		return s
	}
	return v
}

// span is the memory of a slice, spare capacity included.
type span struct{ from, to uintptr }

// spans returns the memory of all slices in a value.
func spans(v reflect.Value) []span {
	var l []span
	switch v.Kind() {
	case reflect.Slice:
		if v.Cap() > 0 {
			l = append(l, span{v.Pointer(), v.Pointer() + uintptr(v.Cap())*v.Type().Elem().Size()})
		}
		for i := range v.Len() {
			l = append(l, spans(v.Index(i))...)
		}
	case reflect.Struct:
		for i := range v.NumField() {
			l = append(l, spans(v.Field(i))...)
		}
	}
	return l
}

// checkMemory checks that a result shares no memory with arguments, and that no two slices in it share any.
func checkMemory(t *testing.T, result any, args ...any) {
	t.Helper()
	own := spans(reflect.ValueOf(result))
	var others []span
	for _, x := range args {
		others = append(others, spans(reflect.ValueOf(x))...)
	}
	for i, a := range own {
		for _, b := range slices.Concat(own[i+1:], others) {
			if a.from < b.to && b.from < a.to {
				t.Fatalf("%+v shares memory", result)
			}
		}
	}
}

// TestMemory checks the memory of the results, and that arguments and their spare capacity are not changed.
func TestMemory(t *testing.T) {
	g := newRandom(8)
	for range 2000 {
		for _, r := range g.wildProgram(t).Rules {
			r.Heads, r.Body, r.Tuple = roomy(r.Heads), roomy(r.Body), roomy(r.Tuple)
			saved := deepCopy(r)
			checkMemory(t, derive.Premises(r), r)
			derive.Safe(r)
			derive.Derive(api.Prog{Rules: []api.Rule{r}})
			if !reflect.DeepEqual(r, saved) || !unused(r.Heads) || !unused(r.Body) || !unused(r.Tuple) {
				t.Fatalf("%+v, want %+v", r, saved)
			}
		}
	}
	for _, src := range []string{"p(X,f(X,Y),1..2,X)", "f(X) < 1+1, not p(g(X),X)", "p(X), p(X), X = X"} {
		concl, cond := roomy(litsOf(t, src)), roomy(litsOf(t, "d(X), d(Y), not e(X,Y)"))
		s, b := storeOf(t, "d(f(1,g(a))) d(1..2) e(2,2)"), roomy(bindingOf(t, "X=f(1,g(a)) Z=g(a,b)"))
		for _, b := range []api.Binding{nil, b} {
			rows, e := derive.Elements(cond, concl, s, b)
			if e != api.OK || len(rows) == 0 {
				t.Fatal(src, e)
			}
			checkMemory(t, rows, cond, concl, b)
		}
		if !unused(concl) || !unused(cond) || !unused(b) || storeText(s) != "d(1) d(2) d(f(1,g(a))) e(2,2)" {
			t.Error(src)
		}
	}
}

// roomy returns a copy of a slice with spare capacity.
func roomy[S ~[]T, T any](l S) S {
	return append(make(S, 0, len(l)+3), l...)
}

// unused reports whether the spare capacity of a slice is unchanged.
func unused[S ~[]T, T any](l S) bool {
	for _, x := range l[len(l):cap(l)] {
		if !reflect.ValueOf(x).IsZero() {
			return false
		}
	}
	return true
}

// TestConcurrentCalls makes calls for the same arguments at the same time.
func TestConcurrentCalls(t *testing.T) {
	p := programOf(t, "d(1..9). p(X+1) :- d(X), not q(X). { q(X) : d(X), X < 4 }. s :- p(X) : d(X), X > 1.")
	s := storeOf(t, "d(1..9)")
	cond, concl := litsOf(t, "d(X)"), litsOf(t, "p(X+1)")
	want, _, _ := derive.Derive(p)
	var wait sync.WaitGroup
	for range 8 {
		wait.Go(func() {
			for range 20 {
				possible, _, _ := derive.Derive(p)
				rows, _ := derive.Elements(cond, concl, s, nil)
				if !possible.Equal(want) || len(rows) != 9 || !derive.Valid(p) || !derive.Safe(p.Rules[1]) || len(derive.Premises(p.Rules[1])) != 3 {
					t.Error("a result changes")
				}
			}
		})
	}
	wait.Wait()
}

// TestNothing passes zero values.
func TestNothing(t *testing.T) {
	if !derive.Valid(api.Prog{}) || derive.Safe(api.Rule{}) || len(derive.Premises(api.Rule{})) != 0 || !derive.Safe(api.Rule{Kind: api.RuleDisj}) {
		t.Error("zero values")
	}
	if rows, e := derive.Elements(nil, nil, nil, nil); e != api.ErrNil || len(rows) != 0 {
		t.Error(rows, e)
	}
	if rows, e := derive.Elements([]api.Lit{}, []api.Lit{}, store.New(), api.Binding{}); e != api.OK || len(rows) != 1 || len(rows[0]) != 0 {
		t.Error(rows, e)
	}
	possible, certain, e := derive.Derive(api.Prog{Rules: []api.Rule{}})
	if e != api.OK || possible.Len() != 0 || certain.Len() != 0 || possible == certain {
		t.Error(possible, certain, e)
	}
	if _, e := possible.Add(atom("p")); e != api.OK || certain.Len() != 0 {
		t.Error(e)
	}
}
