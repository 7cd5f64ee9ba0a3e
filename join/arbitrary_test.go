package join_test

import (
	"slices"
	"testing"

	"ostler/api"
	"ostler/join"
	"ostler/match"
	"ostler/store"
	"ostler/term"
)

// R1 and R7

// wild produces a term that need not be valid.
func (g random) wild(depth int) api.Term {
	t := api.Term{Kind: uint8(g.IntN(8))}
	if g.IntN(2) == 0 {
		t.Name = g.pick("", "X", "a", "#1", "#2", "f", "+", "-", "not")
	}
	if g.IntN(4) == 0 {
		t.Num = g.IntN(3) - 1
	}
	if depth > 0 && g.IntN(2) == 0 {
		t.Args = g.many(func() api.Term { return g.wild(depth - 1) }, 0, 3)
	}
	return t
}

func (g random) wildLit() api.Lit {
	x := g.lit()
	side := func() api.Term { return g.wild(2) }
	switch g.IntN(8) {
	case 0:
		x.L = side()
	case 1:
		x.R = side()
	case 2:
		x.Atom.Args = g.many(side, 0, 9)
	case 3:
		x.Atom.Pred = g.pick("", "P", "p", "q", "not", "#1")
	case 4:
		x.Kind = uint8(g.IntN(4))
	case 5:
		x.Op = uint8(g.IntN(9))
	case 6:
		x.Not = !x.Not
	}
	return x
}

// referenceValid reports whether a list is valid, by the words of the chapter.
func referenceValid(l []api.Lit) bool {
	valid := func(t api.Term) bool { return term.Valid(renameTerm(t, "#", "X")) }
	for _, x := range l {
		switch {
		case x.Kind == api.LitAtom && term.Symbol(x.Atom.Pred) && len(x.Atom.Args) <= 8:
			for _, t := range x.Atom.Args {
				if !valid(t) {
					return false
				}
			}
		case x.Kind == api.LitComp && !x.Not && x.Op >= 1 && x.Op <= 6 && valid(x.L) && valid(x.R):
		default:
			return false
		}
	}
	return true
}

// TestArbitraryArguments checks validity and errors of arbitrary lists and bindings.
func TestArbitraryArguments(t *testing.T) {
	g := newRandom(11)
	count := map[api.Errno]int{}
	for range 20000 {
		l := g.lits(3)
		for range g.IntN(3) {
			l = slices.Insert(l, g.IntN(len(l)+1), g.wildLit())
		}
		b := g.binding()
		if g.IntN(3) == 0 {
			b = append(b, pair(g.pick("X", "a", "", "#9", "_2"), g.wild(1)))
		}
		valid := referenceValid(l)
		if join.Valid(l) != valid {
			t.Fatalf("%v: %v", l, !valid)
		}
		moved := 0
		if checkFlat(t, l, nil, join.Flat(l), &moved); t.Failed() {
			t.FailNow()
		}
		got, e := join.Join(l, fill(g.atoms(20)), b)
		count[e]++
		if !valid && (e != api.ErrArg || len(got) > 0) || e == api.ErrArg && valid && validWords(b) || e == api.OK && !validWords(b) {
			t.Fatalf("%v with %v: error %d", l, b, e)
		}
	}
	if count[api.OK] < 2000 || count[api.ErrArg] < 2000 || count[join.ErrUnsafe] < 2000 {
		t.Error("the samples are one-sided", count)
	}
}

// validWords reports whether a binding is valid, by the words of the chapter.
func validWords(b api.Binding) bool {
	for i, x := range b {
		if !match.Valid(api.Binding{pair("X", x.Val)}) || i > 0 && b[i-1].Name >= x.Name {
			return false
		}
	}
	return true
}

// TestTotalOrder compares arbitrary terms in both directions.
func TestTotalOrder(t *testing.T) {
	g := newRandom(12)
	for range 20000 {
		a, b := g.wild(2), g.wild(2)
		less, equal, greater := join.Order(api.OpLt, a, b), join.Order(api.OpEq, a, b), join.Order(api.OpGt, a, b)
		if less && equal || equal && greater || less && greater || !less && !equal && !greater {
			t.Fatal(a, b, less, equal, greater)
		}
		if equal != term.Equal(a, b) || less != (term.Compare(a, b) < 0) || join.Order(api.OpGt, b, a) != less {
			t.Fatal(a, b, less, equal, greater)
		}
		if join.Order(api.OpNe, a, b) == equal || join.Order(api.OpLe, a, b) == greater || join.Order(api.OpGe, a, b) == less {
			t.Fatal(a, b)
		}
		if op := uint8(7 + g.IntN(249)); join.Order(op, a, b) || join.Order(0, a, b) {
			t.Fatal(op)
		}
	}
}

// TestNothing passes zero values.
func TestNothing(t *testing.T) {
	if !join.Valid(nil) || !join.Valid([]api.Lit{}) || len(join.Flat(nil)) != 0 || len(join.Flat([]api.Lit{}, "", "#1")) != 0 || join.Order(0, api.Term{}, api.Term{}) || !join.Order(api.OpEq, api.Term{}, api.Term{}) {
		t.Error("zero values")
	}
	for _, b := range []api.Binding{nil, {}} {
		if got, e := join.Join([]api.Lit{}, store.New(), b); e != api.OK || len(got) != 1 || len(got[0]) != 0 {
			t.Error(got, e)
		}
	}
}
