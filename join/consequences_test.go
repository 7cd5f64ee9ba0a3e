package join_test

import (
	"slices"
	"sync"
	"testing"

	"ostler/api"
	"ostler/arith"
	"ostler/join"
	"ostler/match"
	"ostler/store"
	"ostler/term"
)

// P12.4

// satisfied reports whether a binding of all variables satisfies a list, by the words of the chapter's consequences.
func satisfied(l []api.Lit, s *store.Store, b api.Binding) bool {
	b = renameBinding(b, "#", hash)
	for _, x := range rename(l, "#", hash) {
		x = match.ApplyLit(x, b)
		holds := false
		switch {
		case x.Kind == api.LitComp:
			left, _ := arith.Expand(x.L)
			right, _ := arith.Expand(x.R)
			holds = referenceHolds(x.Op, left, right)
		case x.Not:
			holds = !slices.ContainsFunc(x.Atom.Args, func(t api.Term) bool {
				values, e := arith.Expand(t)
				return e == api.OK && len(values) == 0
			})
		default:
			holds = slices.ContainsFunc(expandAtom(x.Atom), s.Has)
		}
		if !holds {
			return false
		}
	}
	return true
}

// expandAtom returns the atoms that have an expansion of each argument.
func expandAtom(a api.Atom) []api.Atom {
	choices := [][]api.Term{nil}
	for _, t := range a.Args {
		values, _ := arith.Expand(t)
		var longer [][]api.Term
		for _, args := range choices {
			for _, v := range values {
				longer = append(longer, append(slices.Clip(args), v))
			}
		}
		choices = longer
	}
	var l []api.Atom
	for _, args := range choices {
		l = append(l, atom(a.Pred, args...))
	}
	return l
}

// domain returns values: all that occur in atoms or bindings, and some more.
func domain(atoms []api.Atom, l []api.Binding) []api.Term {
	values := []api.Term{symbol("a"), symbol("b"), number(-1), number(0), number(1), number(2), number(3), number(4)}
	var add func(t api.Term)
	add = func(t api.Term) {
		if !slices.ContainsFunc(values, func(v api.Term) bool { return term.Equal(v, t) }) {
			values = append(values, t)
		}
		for _, a := range t.Args {
			add(a)
		}
	}
	for _, a := range atoms {
		for _, t := range a.Args {
			add(t)
		}
	}
	for _, b := range l {
		for _, x := range b {
			add(x.Val)
		}
	}
	return values
}

// candidates returns all bindings of variables to values of a domain that extend a binding, in the order of bindings if the values are in order.
func candidates(names []string, values []api.Term, b api.Binding) []api.Binding {
	l := []api.Binding{nil}
	for _, name := range names {
		choice := values
		if v, found := match.Get(renameBinding(b, "#", hash), renameTerm(variable(name), "#", hash).Name); found {
			choice = []api.Term{v}
		}
		var longer []api.Binding
		for _, c := range l {
			for _, v := range choice {
				longer = append(longer, append(slices.Clip(c), pair(name, v)))
			}
		}
		l = longer
	}
	return l
}

// TestBindingsAreThoseThatSatisfyTheList tries all bindings over a small domain.
func TestBindingsAreThoseThatSatisfyTheList(t *testing.T) {
	g := newRandom(6)
	some, none := 0, 0
	for range 20000 {
		l, atoms, b := g.body(3), g.atoms(8), g.binding()
		all := referenceVars(l)
		for _, x := range b {
			all = append(all, x.Name)
		}
		slices.Sort(all)
		all = slices.Compact(all)
		s := fill(atoms)
		got, e := join.Join(l, s, b)
		values := domain(atoms, append(slices.Clone(got), b))
		if e != api.OK || len(all)-len(b) > 2 || len(values) > 25 {
			continue
		}
		slices.SortFunc(values, term.Compare)
		want := slices.DeleteFunc(candidates(all, values, b), func(c api.Binding) bool { return !satisfied(l, s, c) })
		if bindingsText(got) != bindingsText(want) {
			t.Fatalf("%v with %s: %s, want %s", l, bindingText(b), bindingsText(got), bindingsText(want))
		}
		if len(got) > 0 && len(l) > 0 {
			some++
		} else {
			none++
		}
	}
	if some < 1000 || none < 1000 {
		t.Error("the samples are one-sided", some, none)
	}
}

// extends reports whether a binding contains all pairs of another one.
func extends(c, b api.Binding) bool {
	return !slices.ContainsFunc(b, func(x api.Bind) bool {
		return !slices.ContainsFunc(c, func(y api.Bind) bool { return equalPairs(x, y) })
	})
}

func TestBindingsExtendTheGivenOne(t *testing.T) {
	g := newRandom(7)
	for range 5000 {
		l, b := g.body(2), g.binding()
		got, e := join.Join(l, fill(g.atoms(30)), b)
		for _, c := range got {
			if !extends(c, b) {
				t.Fatalf("%v: %s does not extend %s", l, bindingText(c), bindingText(b))
			}
			for i := range c {
				if i > 0 && c[i-1].Name >= c[i].Name {
					t.Fatal("not in order:", bindingText(c))
				}
			}
		}
		if e != api.OK && len(got) > 0 {
			t.Fatal("bindings with an error")
		}
	}
}

func TestOrderOfLiteralsDoesNotMatter(t *testing.T) {
	g := newRandom(8)
	some := 0
	for range 5000 {
		l, b, s := g.body(4), g.binding(), fill(g.atoms(30))
		got, e := join.Join(l, s, b)
		other := slices.Clone(l)
		g.Shuffle(len(other), func(i, k int) { other[i], other[k] = other[k], other[i] })
		again, f := join.Join(other, s, b)
		if e != api.OK || f != api.OK {
			continue
		}
		if bindingsText(got) != bindingsText(again) {
			t.Fatalf("%v: %s, but %s for %v", l, bindingsText(got), bindingsText(again), other)
		}
		if len(got) > 0 {
			some++
		}
	}
	if some < 500 {
		t.Error("only", some, "lists have bindings")
	}
}

func TestMoreAtomsRemoveNoBinding(t *testing.T) {
	g := newRandom(9)
	some := 0
	for range 5000 {
		l, b, atoms := g.body(3), g.binding(), g.atoms(30)
		fewer, e := join.Join(l, fill(atoms[:g.IntN(len(atoms)+1)]), b)
		more, f := join.Join(l, fill(atoms), b)
		if e != api.OK || f != api.OK {
			continue
		}
		all := texts(more)
		for _, c := range texts(fewer) {
			some++
			if !slices.Contains(all, c) {
				t.Fatalf("%v: %s is missing in %v", l, c, all)
			}
		}
	}
	if some < 500 {
		t.Error("only", some, "bindings")
	}
}

// TestOrderOfAtomsDoesNotMatter adds the atoms to a store in two orders.
func TestOrderOfAtomsDoesNotMatter(t *testing.T) {
	g := newRandom(10)
	for range 3000 {
		l, b, atoms := g.body(3), g.binding(), g.atoms(30)
		other := slices.Clone(atoms)
		slices.Reverse(other)
		got, e := join.Join(l, fill(atoms), b)
		again, f := join.Join(l, fill(other), b)
		if e != f || bindingsText(got) != bindingsText(again) {
			t.Fatalf("%v: %s, but %s", l, bindingsText(got), bindingsText(again))
		}
	}
}

// R3

// spoil changes all memory of terms, and their spare capacity.
func spoil(l []api.Term) {
	l = l[:cap(l)]
	for i := range l {
		spoil(l[i].Args)
		l[i] = symbol("spoilt")
	}
}

func spoilLits(l []api.Lit) {
	l = l[:cap(l)]
	for i := range l {
		spoil(l[i].Atom.Args)
		spoil(l[i].L.Args)
		spoil(l[i].R.Args)
		l[i] = positive("spoilt")
	}
}

func spoilBindings(l ...api.Binding) {
	for _, b := range l {
		b = b[:cap(b)]
		for i := range b {
			spoil(b[i].Val.Args)
			b[i] = pair("spoilt", symbol("spoilt"))
		}
	}
}

// roomy returns a copy of terms in which all slices have spare capacity that contains a term.
func roomy(l []api.Term) []api.Term {
	var copied []api.Term
	for _, t := range l {
		t.Args = roomy(t.Args)
		copied = append(copied, t)
	}
	return append(copied, symbol("spare"))[:len(l)]
}

func roomyLits(l []api.Lit) []api.Lit {
	var copied []api.Lit
	for _, x := range l {
		x.Atom.Args, x.L.Args, x.R.Args = roomy(x.Atom.Args), roomy(x.L.Args), roomy(x.R.Args)
		copied = append(copied, x)
	}
	return append(copied, positive("spare"))[:len(l)]
}

func roomyBinding(b api.Binding) api.Binding {
	var copied api.Binding
	for _, x := range b {
		x.Val.Args = roomy(x.Val.Args)
		copied = append(copied, x)
	}
	return append(copied, pair("spare", symbol("spare")))[:len(b)]
}

// spared reports whether the spare capacity that roomy made contains what it contained.
func spared(l []api.Term) bool {
	full := l[:len(l)+1]
	return full[len(l)].Name == "spare" && !slices.ContainsFunc(l, func(t api.Term) bool { return !spared(t.Args) })
}

func sparedLits(l []api.Lit) bool {
	return l[:len(l)+1][len(l)].Atom.Pred == "spare" && !slices.ContainsFunc(l, func(x api.Lit) bool {
		return !spared(x.Atom.Args) || !spared(x.L.Args) || !spared(x.R.Args)
	})
}

const sample = "e(f(X),Y), d(g(X+1)), Z = h(Y,f(1..2)), not q(f(X-1)), V = W, f(Z) != 1"

func sampleStore(t *testing.T) *store.Store {
	return storeOfText(t, "e(f(1),f(a)) e(f(2),f(a)) e(f(2),b) d(g(2)) d(g(3))")
}

func sampleBinding(t *testing.T) api.Binding { return bindingOf(t, "A=f(g(1),2) W=f(f(b))") }

func TestArgumentsStay(t *testing.T) {
	l, b, s := roomyLits(litsOf(t, sample)), roomyBinding(sampleBinding(t)), sampleStore(t)
	used := []string{"#1", "X", "spare"}
	join.Valid(l)
	join.Order(api.OpEq, l[2].R, l[2].R)
	join.Flat(l, used[:2]...)
	if got, e := join.Join(l, s, b); e != api.OK || len(got) != 6 {
		t.Error(bindingsText(got), e)
	}
	if !slices.EqualFunc(l, litsOf(t, sample), equalLits) || !slices.EqualFunc(b, sampleBinding(t), equalPairs) || !slices.Equal(used, []string{"#1", "X", "spare"}) {
		t.Error("an argument changed")
	}
	if !sparedLits(l) || b[:3][2].Name != "spare" || !spared(b[0].Val.Args) || !spared(b[1].Val.Args) {
		t.Error("the spare capacity of an argument changed")
	}
	if !s.Equal(sampleStore(t)) || s.Len() != 5 {
		t.Error("the store changed")
	}
}

func TestResultsAreCopies(t *testing.T) {
	l, b, s := litsOf(t, sample), sampleBinding(t), sampleStore(t)
	flat := join.Flat(l)
	want := litsText(flat)
	spoilLits(join.Flat(l))
	bindings, _ := join.Join(l, s, b)
	wanted := bindingsText(bindings)
	again, _ := join.Join(l, s, b)
	spoilBindings(again...)
	if litsText(flat) != want || bindingsText(bindings) != wanted || !slices.EqualFunc(l, litsOf(t, sample), equalLits) || !slices.EqualFunc(b, sampleBinding(t), equalPairs) || !s.Equal(sampleStore(t)) {
		t.Error("results share memory with arguments or with other results")
	}
	spoilLits(l)
	spoilBindings(b)
	if litsText(flat) != want || bindingsText(bindings) != wanted {
		t.Error("results share memory with arguments")
	}
}

// TestSlicesOfOneResultAreDistinct changes one slice after the other, also for arguments that share memory with each other.
func TestSlicesOfOneResultAreDistinct(t *testing.T) {
	args := []api.Term{function("f", number(1)), operation("+", function("f", variable("X")), number(1))}
	l := []api.Lit{{Kind: api.LitAtom, Atom: atom("p", args...), L: args[1], R: args[1]}, {Kind: api.LitAtom, Atom: atom("p", args...)}, comparison(args[1], api.OpNe, args[1])}
	want := join.Flat(l)
	for i := range want {
		for part := range 3 {
			flat := join.Flat(l)
			pick := func(x api.Lit) []api.Term { return [][]api.Term{x.Atom.Args, x.L.Args, x.R.Args}[part] }
			spoil(pick(flat[i]))
			switch part {
			case 0:
				flat[i].Atom.Args = want[i].Atom.Args
			case 1:
				flat[i].L.Args = want[i].L.Args
			case 2:
				flat[i].R.Args = want[i].R.Args
			}
			if !slices.EqualFunc(flat, want, equalLits) {
				t.Error("slices of a flat form share memory", i, part)
			}
		}
	}
	v := function("f", number(1))
	b := api.Binding{pair("A", v), pair("B", v), pair("C", function("g", v, v))}
	list := litsOf(t, "D = A, E = f(A), q(F), q(G), H = 1..3, f(I) = f(f(1))")
	s := storeOfText(t, "q(f(f(1))) q(f(2))")
	list = append(list, comparison(variable("I"), api.OpEq, v))
	results, e := join.Join(list, s, b)
	if e != api.OK || len(results) != 12 {
		t.Fatal(bindingsText(results), e)
	}
	for i := range results {
		for k := range results[i] {
			again, _ := join.Join(list, s, b)
			spoil(again[i][k].Val.Args)
			again[i][k].Val = results[i][k].Val
			if bindingsText(again) != bindingsText(results) {
				t.Fatal("values share memory", i, k)
			}
		}
		again, _ := join.Join(list, s, b)
		spoilBindings(again[i])
		again[i] = results[i]
		if bindingsText(again) != bindingsText(results) {
			t.Error("bindings share memory", i)
		}
	}
	inner, _ := join.Join(nil, s, b)
	spoil(inner[0][2].Val.Args[0].Args)
	if !term.Equal(inner[0][2].Val.Args[1], v) {
		t.Error("the arguments of one value share memory")
	}
}

// R4

// TestCallsAreIndependent lets several goroutines read one store and one list, which the race detector observes.
func TestCallsAreIndependent(t *testing.T) {
	l, b, s := litsOf(t, sample), sampleBinding(t), sampleStore(t)
	first, _ := join.Join(l, s, b)
	want := bindingsText(first)
	var readers sync.WaitGroup
	for range 4 {
		readers.Go(func() {
			for range 20 {
				if got, e := join.Join(l, s, b); e != api.OK || bindingsText(got) != want {
					t.Error("another result", bindingsText(got), e)
				}
				join.Flat(l, "X")
				join.Valid(l)
			}
		})
	}
	readers.Wait()
	s.Add(atom("e", function("f", number(1)), symbol("c")))
	if more, e := join.Join(l, s, b); e != api.OK || len(more) != len(first)+2 {
		t.Error("an atom is missing", bindingsText(more), e)
	}
}
