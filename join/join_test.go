package join_test

import (
	"strings"
	"testing"

	"ostler/api"
	"ostler/join"
	"ostler/store"
)

// P12.3

// TestExample is the example of the chapter.
func TestExample(t *testing.T) {
	s := storeOfText(t, "p(1,2) p(2,3) p(3,5)")
	checkJoin(t, litsOf(t, "p(X,Y), p(Y,Z)"), s, nil, "X=1 Y=2 Z=3 | X=2 Y=3 Z=5", api.OK)
	l := litsOf(t, "p(X,X+1), Y = 1..X, Y != 2")
	checkJoin(t, l, s, nil, "X=1 Y=1 | X=2 Y=1", api.OK)
	if got := litsText(join.Flat(l)); got != "p(X,H_1), H_1 = X+1, Y = 1..X, Y != 2" {
		t.Error(got)
	}
	checkJoin(t, litsOf(t, "p(X,Z+1)"), s, nil, "", join.ErrUnsafe)
}

// result is a case of a list, a binding and its bindings.
type result struct{ src, b, want string }

func checkResults(t *testing.T, s *store.Store, cases []result) {
	t.Helper()
	for _, c := range cases {
		checkJoin(t, litsOf(t, c.src), s, bindingOf(t, c.b), c.want, api.OK)
	}
}

func TestAtoms(t *testing.T) {
	s := storeOfText(t, "t e(1,2) e(2,3) e(3,1) e(2,2) e(1,2,3) n(f(2)) n(a) n(1) n(-1) n(b) n(g(f(1),f(1))) n(g(f(1),f(2))) n(f(a,b)) d(1) d(a)")
	checkResults(t, s, []result{
		{"", "", ""},
		{"t", "", ""},
		{"t, t", "X=1", "X=1"},
		{"d(X)", "", "X=1 | X=a"},
		{"n(X)", "", "X=-1 | X=1 | X=a | X=b | X=f(2) | X=f(a,b) | X=g(f(1),f(1)) | X=g(f(1),f(2))"},
		{"e(X,Y)", "", "X=1 Y=2 | X=2 Y=2 | X=2 Y=3 | X=3 Y=1"},
		{"e(Y,X)", "", "X=1 Y=3 | X=2 Y=1 | X=2 Y=2 | X=3 Y=2"},
		{"e(X,X)", "", "X=2"},
		{"e(_,_)", "", "_=2"},
		{"e(_,X)", "", "X=1 _=3 | X=2 _=1 | X=2 _=2 | X=3 _=2"},
		{"e(X,Y,Z)", "", "X=1 Y=2 Z=3"},
		{"e(X,Y), e(X,Y,Z)", "", "X=1 Y=2 Z=3"},
		{"e(X,Y), e(Y,Z), e(Z,X)", "", "X=1 Y=2 Z=3 | X=2 Y=2 Z=2 | X=2 Y=3 Z=1 | X=3 Y=1 Z=2"},
		{"e(X,Y), d(X)", "", "X=1 Y=2"},
		{"d(X), e(X,Y)", "", "X=1 Y=2"},
		{"e(1,X)", "", "X=2"},
		{"e(X,2), e(X,3)", "", "X=2"},
		{"n(f(X))", "", "X=2"},
		{"n(f(X,Y))", "", "X=a Y=b"},
		{"n(g(X,X))", "", "X=f(1)"},
		{"n(g(f(X),Y))", "", "X=1 Y=f(1) | X=1 Y=f(2)"},
		{"n(g(f(X),f(X)))", "", "X=1"},
		{"n(g(f(X),f(Y))), e(X,Y)", "", "X=1 Y=2"},
		{"e(X,Y), n(g(f(X),f(Y)))", "", "X=1 Y=2"},
		{"n(f(X)), e(Y,X)", "", "X=2 Y=1 | X=2 Y=2"},
		{"n(X), d(Y)", "X=a", "X=a Y=1 | X=a Y=a"},
		{"e(X,Y)", "X=2", "X=2 Y=2 | X=2 Y=3"},
		{"e(X,Y)", "Y=2", "X=1 Y=2 | X=2 Y=2"},
		{"e(X,Y)", "X=1 Y=2", "X=1 Y=2"},
		{"n(X)", "X=f(a,b)", "X=f(a,b)"},
		{"n(X), n(Y), e(Z,V)", "V=3 Y=b Z=2", "V=3 X=-1 Y=b Z=2 | V=3 X=1 Y=b Z=2 | V=3 X=a Y=b Z=2 | V=3 X=b Y=b Z=2 | V=3 X=f(2) Y=b Z=2 | V=3 X=f(a,b) Y=b Z=2 | V=3 X=g(f(1),f(1)) Y=b Z=2 | V=3 X=g(f(1),f(2)) Y=b Z=2"},
	})
	for _, none := range []string{"p", "t(X)", "e", "e(X)", "E = 1, e(X,Y,Z,E)", "e(1,1)", "e(X,a)", "e(X,Y), e(Y,X), X < Y, Y < X", "n(h(X))", "n(f(1))", "n(2)", "d(X), e(X,X)", "n(g(X,Y,Z))", "n(g(f(X)))", "t, not t, 1 = 2"} {
		checkJoin(t, litsOf(t, none), s, nil, "", api.OK)
		if got, _ := join.Join(litsOf(t, none), s, nil); len(got) > 0 {
			t.Error(none, "has bindings")
		}
	}
	for _, c := range []result{{"e(X,Y)", "X=1 Y=3", ""}, {"e(X,Y)", "X=a", ""}, {"d(X)", "X=2", ""}} {
		if got, e := join.Join(litsOf(t, c.src), s, bindingOf(t, c.b)); len(got) > 0 || e != api.OK {
			t.Error(c.src, bindingsText(got), e)
		}
	}
}

// TestSimilarTexts looks for values whose texts are the same when they are joined.
func TestSimilarTexts(t *testing.T) {
	s := storeOfText(t, "d(1,12) d(11,2) d(a,b) d(ab,1) d(f(1),a) e(1,12,a) e(11,2,b) e(a,b1,c) e(ab,1,d) e(f(1),a,f(1,a))")
	checkResults(t, s, []result{
		{"d(X,Y), e(X,Y,Z)", "", "X=1 Y=12 Z=a | X=11 Y=2 Z=b | X=ab Y=1 Z=d | X=f(1) Y=a Z=f(1,a)"},
		{"d(X,Y), e(X,Y,f(1,Y))", "", "X=f(1) Y=a"},
		{"e(X,Y,Z), d(X,Y)", "", "X=1 Y=12 Z=a | X=11 Y=2 Z=b | X=ab Y=1 Z=d | X=f(1) Y=a Z=f(1,a)"},
	})
}

// TestOneEmptyBinding distinguishes lists without variables that hold from others.
func TestOneEmptyBinding(t *testing.T) {
	s := storeOfText(t, "t p(1)")
	for src, want := range map[string]int{"": 1, "t": 1, "p(1)": 1, "1 < 2": 1, "not t": 1, "not q(1..3)": 1, "p(1..3)": 1, "p(2..3)": 0, "q": 0, "2 < 1": 0, "not q(3..1)": 0} {
		if got, e := join.Join(litsOf(t, src), s, nil); e != api.OK || len(got) != want || want == 1 && len(got[0]) != 0 {
			t.Errorf("%s: %v and error %d", src, got, e)
		}
	}
}

func TestComparisons(t *testing.T) {
	s := storeOfText(t, "d(1..3) n(a) n(f(1)) n(2)")
	checkResults(t, s, []result{
		{"X = 1..3", "", "X=1 | X=2 | X=3"},
		{"1..3 = X", "", "X=1 | X=2 | X=3"},
		{"X = f(1..2,(1..2)*2)", "", "X=f(1,2) | X=f(1,4) | X=f(2,2) | X=f(2,4)"},
		{"X = a", "", "X=a"},
		{"X = 3..1", "", ""},
		{"X = a+1", "", ""},
		{"X = 1/0", "", ""},
		{"X = (1..2)*0", "", "X=0"},
		{"X = Y", "Y=f(a)", "X=f(a) Y=f(a)"},
		{"Y = X", "Y=f(a)", "X=f(a) Y=f(a)"},
		{"X = X", "X=1", "X=1"},
		{"X = Y, Y = Z, Z = 1..2", "", "X=1 Y=1 Z=1 | X=2 Y=2 Z=2"},
		{"X = Y+1, Y = Z*2, 3 = Z", "", "X=7 Y=6 Z=3"},
		{"X = f(Y), d(Y)", "", "X=f(1) Y=1 | X=f(2) Y=2 | X=f(3) Y=3"},
		{"X = f(Y), n(X), d(Y)", "", "X=f(1) Y=1"},
		{"X = 1..2, X = 2..3", "", "X=2"},
		{"d(X), X = 2..7", "", "X=2 | X=3"},
		{"X = Y..3, d(Y)", "", "X=1 Y=1 | X=2 Y=1 | X=2 Y=2 | X=3 Y=1 | X=3 Y=2 | X=3 Y=3"},
		{"n(X), Y = X+1", "", "X=2 Y=3"},
		{"n(X), X < a", "", "X=2"},
		{"n(X), X <= a", "", "X=2 | X=a"},
		{"n(X), X > a", "", "X=f(1)"},
		{"n(X), X >= a", "", "X=a | X=f(1)"},
		{"n(X), X != a", "", "X=2 | X=f(1)"},
		{"n(X), X = a", "", "X=a"},
		{"d(X), d(Y), X < Y", "", "X=1 Y=2 | X=1 Y=3 | X=2 Y=3"},
		{"d(X), d(Y), X+Y = 4", "", "X=1 Y=3 | X=2 Y=2 | X=3 Y=1"},
		{"d(X), d(Y), X-Y != 0, X*Y > 3", "", "X=2 Y=3 | X=3 Y=2"},
		{"d(X), X+1 >= a", "", ""},
		{"n(X), X+1 = X+1", "", "X=2"},
		{"n(X), X+1 != f(X)", "", "X=2"},
		{"d(X), 1..2 > X", "", "X=1"},
		{"d(X), X = 1..X", "", "X=1 | X=2 | X=3"},
		{"d(X), X = 1..X-1", "", ""},
		{"d(X), f(X,1..2) = f(1..2,X)", "", "X=1 | X=2"},
		{"X = 1, X < 0..2, X != 1..2, X != 1", "", ""},
		{"X = 1, X < 0..2, X != 1..2, 1 <= X", "", "X=1"},
	})
}

// TestComparisonsOfExpansions compares two terms with several expansions each.
func TestComparisonsOfExpansions(t *testing.T) {
	sides := strings.Fields("1 2 a 1..2 2..3 1..3 3..1 (1..2)*2 a+1 f(1..2) f(2) f(a) 1..1 1..4 (1..2)*3 2..2")
	for _, a := range sides {
		for _, b := range sides {
			for _, op := range strings.Fields("= != < <= > >=") {
				checkReference(t, litsOf(t, a+" "+op+" "+b), store.New(), nil)
			}
		}
	}
}

func TestFlattened(t *testing.T) {
	s := storeOfText(t, "d(1..3) e(1,2) e(2,3) e(3,1) n(f(2,4)) n(f(1,1))")
	checkResults(t, s, []result{
		{"e(X,X+1)", "", "X=1 | X=2"},
		{"e(X-1,X)", "X=3", "X=3"},
		{"e(1..2,X)", "", "X=2 | X=3"},
		{"e(1..9,1..9)", "", ""},
		{"d(X), n(f(X,X*X))", "", "X=1 | X=2"},
		{"n(f(1..3,X))", "", "X=1 | X=4"},
		{"d(X), e(X,(X+1)..3)", "", "X=1 | X=2"},
		{"d(X+1), d(X)", "", "X=1 | X=2"},
		{"not q(X+1), d(X)", "", "X=1 | X=2 | X=3"},
		{"not q(1/X), X = 0..1", "", "X=1"},
		{"not q(1..X), X = 0..2", "", "X=1 | X=2"},
		{"not d(X), d(X)", "", "X=1 | X=2 | X=3"},
		{"not e(1..2,1..2), d(X)", "", "X=1 | X=2 | X=3"},
		{"not d(a+1), d(X)", "", ""},
	})
	// One binding holds in more than one way.
	if got, e := join.Join(litsOf(t, "e(1..9,1..9)"), s, nil); e != api.OK || len(got) != 1 || len(got[0]) != 0 {
		t.Error(got, e)
	}
	if got, e := join.Join(litsOf(t, "d(X), e(1..2,1..9), not q(1..100)"), s, nil); e != api.OK || bindingsText(got) != "X=1 | X=2 | X=3" {
		t.Error(bindingsText(got), e)
	}
}

// TestNamesOfVariables checks bindings of other names than variables have, and variables that an earlier call of Flat introduced.
func TestNamesOfVariables(t *testing.T) {
	s := storeOfText(t, "p(2,3) p(3,4)")
	checkResults(t, s, []result{
		{"", "=1", "=1"},
		{"", "not=1 p=a", "not=1 p=a"},
		{"p(X,X+1)", "#=a #0=1 #1=2 a=5 é=6", "#=a #0=1 #1=2 X=2 a=5 é=6 | #=a #0=1 #1=2 X=3 a=5 é=6"},
		{"p(H_1,H_1+1)", "", "#1=2 | #1=3"},
		{"p(H_1,H_1+1)", "#1=2 #2=7", "#1=2 #2=7"},
		{"p(H_1,H_1+1), H_3 = 1", "#1=2 #2=7", "#1=2 #2=7 #3=1"},
		{"p(H_2,H_1), X = H_1", "", "#1=3 #2=2 X=3 | #1=4 #2=3 X=4"},
		{"p(H_10,H_9)", "", "#10=2 #9=3 | #10=3 #9=4"},
		{"p(X,_), XY = X, Y = X, _1 = X, H_ = X", "", "#=2 X=2 XY=2 Y=2 _=3 _1=2 | #=3 X=3 XY=3 Y=3 _=4 _1=3"},
	})
	flat := join.Flat(litsOf(t, "p(X,X+1)"))
	checkJoin(t, flat, s, nil, "#1=3 X=2 | #1=4 X=3", api.OK)
	checkJoin(t, append(flat, litsOf(t, "p(X,X+1)")...), s, nil, "#1=3 X=2 | #1=4 X=3", api.OK)
}

// TestOrderOfBindings checks that the first variable, in the order of names, counts first, and that values are compared as terms.
func TestOrderOfBindings(t *testing.T) {
	s := storeOfText(t, "p(2,b) p(10,a) p(a,1) p(f(1),0) p(2,a) p(-1,z) p(f(0,0),0) p(b,1) p(1,f(z))")
	checkResults(t, s, []result{
		{"p(X,Y)", "", "X=-1 Y=z | X=1 Y=f(z) | X=2 Y=a | X=2 Y=b | X=10 Y=a | X=a Y=1 | X=b Y=1 | X=f(1) Y=0 | X=f(0,0) Y=0"},
		{"p(Y,X)", "", "X=0 Y=f(1) | X=0 Y=f(0,0) | X=1 Y=a | X=1 Y=b | X=a Y=2 | X=a Y=10 | X=b Y=2 | X=z Y=-1 | X=f(z) Y=1"},
		{"p(_,X), X >= b", "", "X=b _=2 | X=z _=-1 | X=f(z) _=1"},
		{"p(X2,X10), X10 <= a", "", "X10=0 X2=f(1) | X10=0 X2=f(0,0) | X10=1 X2=a | X10=1 X2=b | X10=a X2=2 | X10=a X2=10"},
	})
}
