package join_test

import (
	"slices"
	"strconv"
	"strings"
	"testing"

	"ostler/api"
	"ostler/join"
	"ostler/term"
)

// P12.1: Flat

func TestFlat(t *testing.T) {
	for _, c := range []struct{ src, used, want string }{
		{"", "", ""},
		{"p", "", "p"},
		{"p(X,a,1,f(Y)), not q(X), X < Y", "", "p(X,a,1,f(Y)), not q(X), X < Y"},
		{"p(X+1)", "", "p(H_1), H_1 = X+1"},
		{"p(1..2)", "", "p(H_1), H_1 = 1..2"},
		{"p(-X)", "", "p(H_1), H_1 = -X"},
		{"p(1+1,2)", "", "p(H_1,2), H_1 = 1+1"},
		{"not p(X*2)", "", "not p(H_1), H_1 = X*2"},
		{"p(X+1,X+1)", "", "p(H_1,H_2), H_1 = X+1, H_2 = X+1"},
		{"p(f(X+1,a,g(1..X)),Y,X-1)", "", "p(f(H_1,a,g(H_2)),Y,H_3), H_1 = X+1, H_2 = 1..X, H_3 = X-1"},
		{"p((X+1)..(2*Y),f((1..2)+1))", "", "p(H_1,f(H_2)), H_1 = X+1..2*Y, H_2 = (1..2)+1"},
		{"p(f(X)+1,g(f(1..2)..3))", "", "p(H_1,g(H_2)), H_1 = f(X)+1, H_2 = f(1..2)..3"},
		{"p(X+1), not q(X-1), r(1..X)", "", "p(H_1), H_1 = X+1, not q(H_2), H_2 = X-1, r(H_3), H_3 = 1..X"},
		{"X = 1+Y, X..2 != f(1..2), p(-X), -X < 2", "", "X = 1+Y, X..2 != f(1..2), p(H_1), H_1 = -X, -X < 2"},
		{"p(X+1), X = 1..2, q(X+1)", "", "p(H_1), H_1 = X+1, X = 1..2, q(H_2), H_2 = X+1"},

		{"p(1..2,1..2)", "#1", "p(H_2,H_3), H_2 = 1..2, H_3 = 1..2"},
		{"p(1..2,1..2)", "#2", "p(H_1,H_3), H_1 = 1..2, H_3 = 1..2"},
		{"p(1..2,1..2,1..2)", "#4 #2 #2 #1", "p(H_3,H_5,H_6), H_3 = 1..2, H_5 = 1..2, H_6 = 1..2"},
		{"p(1..2)", "X #01 # #1a 1 #+1 #0 #-1", "p(H_1), H_1 = 1..2"},
		{"p(1..2,H_1)", "", "p(H_2,H_1), H_2 = 1..2"},
		{"p(1..2), q(f(H_1))", "", "p(H_2), H_2 = 1..2, q(f(H_1))"},
		{"p(1..2), not q(H_1)", "", "p(H_2), H_2 = 1..2, not q(H_1)"},
		{"p(1..2), H_1 < 2", "", "p(H_2), H_2 = 1..2, H_1 < 2"},
		{"p(1..2), X < f(1..H_1)", "", "p(H_2), H_2 = 1..2, X < f(1..H_1)"},
		{"p(H_1+1)", "", "p(H_2), H_2 = H_1+1"},
		{"p(X+1,f(H_2)..3,X+2)", "#1 #3", "p(H_4,H_5,H_6), H_4 = X+1, H_5 = f(H_2)..3, H_6 = X+2"},
		{"p(H_1), H_1 = X+1", "", "p(H_1), H_1 = X+1"},
	} {
		if got := litsText(join.Flat(litsOf(t, c.src), strings.Fields(c.used)...)); got != c.want {
			t.Errorf("%s with %s: %s, want %s", c.src, c.used, got, c.want)
		}
	}
}

// TestFlatManyNames checks numbers of more than one digit.
func TestFlatManyNames(t *testing.T) {
	var l []api.Lit
	var used []string
	for i := range 1000 {
		l = append(l, negative("p", interval(number(i), number(2))))
		used = append(used, "#"+strconv.Itoa(2*i+2))
	}
	for i, x := range join.Flat(l, used...) {
		want := variable("#" + strconv.Itoa(i/2*2+1))
		if i%2 == 0 && !equalLits(x, negative("p", want)) || i%2 == 1 && !equalLits(x, comparison(want, api.OpEq, l[i/2].Atom.Args[0])) {
			t.Fatal(i, litsText([]api.Lit{x}))
		}
	}
}

// equalLits compares all fields of two literals.
func equalLits(a, b api.Lit) bool {
	return a.Kind == b.Kind && a.Not == b.Not && a.Op == b.Op && a.Atom.Pred == b.Atom.Pred &&
		slices.EqualFunc(a.Atom.Args, b.Atom.Args, term.Equal) && term.Equal(a.L, b.L) && term.Equal(a.R, b.R)
}

// TestFlatInvalidLists flattens lists that are not valid: every maximal operation or interval in the arguments of an atom is replaced, whatever is around it or in it.
func TestFlatInvalidLists(t *testing.T) {
	one, v := number(1), variable("#1")
	sum := operation("%", one)
	other := api.Term{Kind: 9, Num: 3, Name: "n", Args: []api.Term{one, sum}}
	after := api.Term{Kind: 9, Num: 3, Name: "n", Args: []api.Term{one, v}}
	equation := comparison(v, api.OpEq, sum)
	full := api.Lit{Kind: api.LitAtom, Not: true, Atom: atom("", other), Op: 77, L: other, R: sum}
	flat := full
	flat.Atom = atom("", after)
	for i, c := range []struct{ l, want []api.Lit }{
		{[]api.Lit{{}}, []api.Lit{{}}},
		{[]api.Lit{positive("X", sum)}, []api.Lit{positive("X", v), equation}},
		{[]api.Lit{full}, []api.Lit{flat, equation}},
		{[]api.Lit{positive("p", api.Term{Kind: api.TermInt, Args: []api.Term{sum}})}, []api.Lit{positive("p", api.Term{Kind: api.TermInt, Args: []api.Term{v}}), equation}},
		{[]api.Lit{positive("p", api.Term{Kind: api.TermVar, Name: "X", Args: []api.Term{sum}})}, []api.Lit{positive("p", api.Term{Kind: api.TermVar, Name: "X", Args: []api.Term{v}}), equation}},
		{[]api.Lit{positive("p", operation("+"))}, []api.Lit{positive("p", v), comparison(v, api.OpEq, operation("+"))}},
		{[]api.Lit{positive("p", interval())}, []api.Lit{positive("p", v), comparison(v, api.OpEq, interval())}},
		{[]api.Lit{positive("p", append(ones(20), sum)...)}, []api.Lit{positive("p", append(ones(20), v)...), equation}},
		{[]api.Lit{positive("p", tower(1000, sum))}, []api.Lit{positive("p", tower(1000, v)), equation}},
		{[]api.Lit{positive("p", interval(tower(1000, sum)))}, []api.Lit{positive("p", v), comparison(v, api.OpEq, interval(tower(1000, sum)))}},
		{[]api.Lit{{Kind: api.LitComp, Not: true, Op: 9, L: sum, R: other}}, []api.Lit{{Kind: api.LitComp, Not: true, Op: 9, L: sum, R: other}}},
		{[]api.Lit{{Kind: 3, L: sum}, {Kind: 255, R: sum}}, []api.Lit{{Kind: 3, L: sum}, {Kind: 255, R: sum}}},
	} {
		if got := join.Flat(c.l); !slices.EqualFunc(got, c.want, equalLits) {
			t.Errorf("%d: %v, want %v", i, got, c.want)
		}
	}
	deep := tower(1<<16, sum)
	if got := join.Flat([]api.Lit{positive("p", deep)}); len(got) != 2 || !slices.Equal(term.Vars(got[0].Atom.Args[0]), []string{"#1"}) || term.Depth(got[0].Atom.Args[0]) != 1<<16 {
		t.Error("a deep term")
	}
}

// TestFlatSkipsAllNames checks names of variables in fields that the kinds of their literals do not use, and in terms that are not valid: they occur in the list.
func TestFlatSkipsAllNames(t *testing.T) {
	x := api.Term{Kind: 9, Args: []api.Term{{Kind: api.TermVar, Name: "#1", Num: 5}}}
	for _, l := range []api.Lit{
		{Kind: api.LitAtom, Atom: atom("", x)}, {Kind: api.LitAtom, L: x}, {Kind: api.LitAtom, R: x}, {Kind: api.LitComp, L: x}, {Kind: api.LitComp, R: x}, {Kind: api.LitComp, Atom: atom("", x)}, {L: x}, {Atom: atom("", x)},
	} {
		for _, flat := range [][]api.Lit{join.Flat([]api.Lit{positive("p", interval()), l}), join.Flat([]api.Lit{l, positive("p", interval())})} {
			i := slices.IndexFunc(flat, func(y api.Lit) bool { return y.Atom.Pred == "p" })
			if flat[i].Atom.Args[0].Name != "#2" {
				t.Error(l, flat)
			}
		}
	}
	names := []api.Term{symbol("#1"), function("#1", number(1)), operation("#1", number(1))}
	if flat := join.Flat([]api.Lit{positive("#1", names...)}); flat[0].Atom.Args[2].Name != "#1" {
		t.Error("only variables count", flat)
	}
}

// TestFlatIsIdempotent flattens lists that are flat.
func TestFlatIsIdempotent(t *testing.T) {
	g := newRandom(1)
	for range 5000 {
		flat := join.Flat(g.lits(5), "#2")
		if again := join.Flat(flat); !slices.EqualFunc(again, flat, equalLits) {
			t.Fatal(litsText(flat), "becomes", litsText(again))
		}
	}
}

// TestFlatOfRandomLists puts the operations and intervals back into their places.
func TestFlatOfRandomLists(t *testing.T) {
	g := newRandom(2)
	moved := 0
	for range 20000 {
		l := g.lits(5)
		used := []string{"#1", "#3", "X"}[:g.IntN(4)]
		checkFlat(t, l, used, join.Flat(l, used...), &moved)
		if t.Failed() {
			t.Fatal(litsText(l), "becomes", litsText(join.Flat(l, used...)))
		}
	}
	if moved < 3000 {
		t.Error("only", moved, "terms were moved")
	}
}

// checkFlat compares a flat form with its list, and counts the terms that were moved.
func checkFlat(t *testing.T, l []api.Lit, used []string, flat []api.Lit, moved *int) {
	t.Helper()
	next := 1
	for _, x := range l {
		if len(flat) == 0 {
			t.Fatal("a literal is missing")
		}
		y := flat[0]
		flat = flat[1:]
		for i := range y.Atom.Args {
			if y.Kind != api.LitAtom {
				break
			}
			y.Atom.Args[i] = unflat(y.Atom.Args[i], func(v api.Term) (api.Term, bool) {
				for occurs(l, "#"+strconv.Itoa(next)) || slices.Contains(used, "#"+strconv.Itoa(next)) {
					next++
				}
				if v.Name != "#"+strconv.Itoa(next) {
					return v, false
				}
				if len(flat) == 0 || !equalLits(flat[0], comparison(v, api.OpEq, flat[0].R)) || flat[0].R.Kind != api.TermOp && flat[0].R.Kind != api.TermRange {
					t.Fatal("an equation is missing for", v)
				}
				r := flat[0].R
				flat = flat[1:]
				next++
				*moved++
				return r, true
			}, t)
		}
		if !equalLits(x, y) {
			t.Errorf("%v, want %v", y, x)
		}
	}
	if len(flat) > 0 {
		t.Error("more than the list:", litsText(flat))
	}
}

// unflat replaces variables, in the order in which they occur, and reports operations and intervals that are left.
func unflat(x api.Term, replace func(api.Term) (api.Term, bool), t *testing.T) api.Term {
	if x.Kind == api.TermOp || x.Kind == api.TermRange {
		t.Error("not flat")
	}
	if x.Kind == api.TermVar {
		if r, found := replace(x); found {
			return r
		}
	}
	x.Args = slices.Clone(x.Args)
	for i, a := range x.Args {
		x.Args[i] = unflat(a, replace, t)
	}
	return x
}

// occurs reports whether a variable occurs in a list.
func occurs(l []api.Lit, name string) bool {
	return slices.ContainsFunc(l, func(x api.Lit) bool {
		return slices.Contains(term.Vars(api.Term{Args: slices.Concat(x.Atom.Args, []api.Term{x.L, x.R})}), name)
	})
}
