package match_test

import (
	"testing"

	"ostler/api"
	"ostler/match"
	"ostler/term"
)

// P7.2

func TestApply(t *testing.T) {
	const values = "X=2 Y=f(a,1) Z=-3 _=0 _1=b"
	b := bindingOf(t, values)
	for src, want := range map[string]string{
		"X": "2", "Y": "f(a,1)", "_": "0", "_1": "b", "_2": "_2", "W": "W", "XX": "XX", "__X": "__X", "7": "7", "a": "a", "x": "x",
		"f(X,Y,W,X)": "f(2,f(a,1),W,2)", "f(g(h(X)),f(f(Y)))": "f(g(h(2)),f(f(f(a,1))))", "f(_,_1)": "f(0,b)", "y(z(Y))": "y(z(f(a,1)))",
		"X+Y": "2+f(a,1)", "X+1": "2+1", "-X": "-(2)", "-Z": "-(-3)", "X*X-Z": "2*2--3", "1-(2-Z)": "1-(2--3)", "X/0": "2/0", "X\\W": "2\\W", "f(X+X)+W": "f(2+2)+W",
		"X..Y": "2..f(a,1)", "1..X": "1..2", "f(Z..W,X)": "f(-3..W,2)", "(X..W)*Z": "(2..W)*-3", "1+1": "1+1", "3..1": "3..1",
	} {
		if got := match.Apply(termOf(t, src), b); !term.Equal(got, termOf(t, want)) {
			t.Errorf("%s: %s, want %s", src, term.String(got), want)
		}
		if got := match.Apply(termOf(t, src), nil); !term.Equal(got, termOf(t, src)) {
			t.Errorf("%s in the empty binding: %s", src, term.String(got))
		}
	}
}

// TestApplyToInvalidTerms checks that every variable is replaced, wherever it is.
func TestApplyToInvalidTerms(t *testing.T) {
	x, y, one, v := variable("X"), variable("Y"), number(1), termOf(t, "f(a,2)")
	b := api.Binding{pair("X", v)}
	for i, c := range []struct{ t, want api.Term }{
		{api.Term{}, api.Term{}},
		{api.Term{Kind: 99, Num: -5, Name: "X", Args: []api.Term{x, y}}, api.Term{Kind: 99, Num: -5, Name: "X", Args: []api.Term{v, y}}},
		{api.Term{Args: []api.Term{x}}, api.Term{Args: []api.Term{v}}},
		{api.Term{Kind: api.TermInt, Num: 1 << 40, Name: "X", Args: []api.Term{x}}, api.Term{Kind: api.TermInt, Num: 1 << 40, Name: "X", Args: []api.Term{v}}},
		{api.Term{Kind: api.TermSym, Name: "X", Args: []api.Term{function("", x)}}, api.Term{Kind: api.TermSym, Name: "X", Args: []api.Term{function("", v)}}},
		{api.Term{Kind: api.TermVar, Name: "X", Num: 3, Args: []api.Term{one, y}}, v},
		{api.Term{Kind: api.TermVar, Name: "Y", Num: 3, Args: []api.Term{one, x}}, api.Term{Kind: api.TermVar, Name: "Y", Num: 3, Args: []api.Term{one, v}}},
		{api.Term{Kind: api.TermVar, Args: []api.Term{x}}, api.Term{Kind: api.TermVar, Args: []api.Term{v}}},
		{function("f"), function("f")}, {function("F", x, x, x, x, x, x, x, x, x), function("F", v, v, v, v, v, v, v, v, v)},
		{tower(12, x), tower(12, v)}, {tower(1<<16, x), tower(1<<16, v)},
	} {
		if got := match.Apply(c.t, b); !term.Equal(got, c.want) {
			t.Errorf("%d: %.200v, want %.200v", i, got, c.want)
		}
		if got := match.Apply(c.t, nil); !term.Equal(got, c.t) {
			t.Errorf("%d in the empty binding: %.200v", i, got)
		}
	}
}

func TestApplyAtom(t *testing.T) {
	b := bindingOf(t, "X=2 Y=f(a)")
	for _, c := range []struct{ a, want api.Atom }{
		{api.Atom{}, api.Atom{}}, {atom("X"), atom("X")}, {atom("p", variable("X")), atom("p", number(2))},
		{atom("X", termOf(t, "Y"), termOf(t, "X+Z"), termOf(t, "g(X..Y)")), atom("X", termOf(t, "f(a)"), termOf(t, "2+Z"), termOf(t, "g(2..f(a))"))},
		{atom("", api.Term{}, tower(13, variable("X"))), atom("", api.Term{}, tower(13, number(2)))},
	} {
		if got := match.ApplyAtom(c.a, b); !equalAtoms(got, c.want) {
			t.Errorf("%v: %v, want %v", c.a, got, c.want)
		}
	}
}

func equalAtoms(a, b api.Atom) bool {
	return a.Pred == b.Pred && term.Equal(function("f", a.Args...), function("f", b.Args...))
}

func equalLits(a, b api.Lit) bool {
	return a.Kind == b.Kind && a.Not == b.Not && a.Op == b.Op && equalAtoms(a.Atom, b.Atom) && term.Equal(a.L, b.L) && term.Equal(a.R, b.R)
}

// TestApplyLit checks that every term is replaced, be it of use for the kind or not, and that the other fields stay.
func TestApplyLit(t *testing.T) {
	b := bindingOf(t, "X=2 Y=f(a)")
	for _, kind := range []uint8{0, api.LitAtom, api.LitComp, 3, 255} {
		for _, op := range []uint8{0, api.OpEq, api.OpLt, 7} {
			for _, not := range []bool{false, true} {
				l := api.Lit{Kind: kind, Not: not, Op: op, Atom: atom("p", variable("X"), termOf(t, "Y+1"), variable("Z")), L: termOf(t, "g(X,Z)"), R: termOf(t, "1..X")}
				want := api.Lit{Kind: kind, Not: not, Op: op, Atom: atom("p", number(2), termOf(t, "f(a)+1"), variable("Z")), L: termOf(t, "g(2,Z)"), R: termOf(t, "1..2")}
				if got := match.ApplyLit(l, b); !equalLits(got, want) {
					t.Errorf("%v: %v, want %v", l, got, want)
				}
				if got := match.ApplyLit(l, nil); !equalLits(got, l) {
					t.Errorf("%v in the empty binding: %v", l, got)
				}
			}
		}
	}
	if got := match.ApplyLit(api.Lit{}, b); !equalLits(got, api.Lit{}) {
		t.Error(got)
	}
}

func TestApplyInvalidBindings(t *testing.T) {
	x := termOf(t, "f(X,Y+X,X..Y,W,V)")
	for i, b := range invalidBindings() {
		l := api.Lit{Kind: api.LitComp, Op: api.OpLe, Atom: atom("p", x, variable("X")), L: x, R: variable("X")}
		if got := match.Apply(x, b); !term.Equal(got, x) {
			t.Errorf("%d: %v", i, got)
		}
		if got := match.ApplyAtom(l.Atom, b); !equalAtoms(got, l.Atom) {
			t.Errorf("%d: %v", i, got)
		}
		if got := match.ApplyLit(l, b); !equalLits(got, l) {
			t.Errorf("%d: %v", i, got)
		}
	}
}
