package safety_test

import (
	"slices"
	"strings"
	"testing"

	"ostler/api"
	"ostler/safety"
)

// checkRule checks the global and the unsafe variables of a rule, and whether programs with this rule are safe.
func checkRule(t *testing.T, name string, r api.Rule, global, unsafe string) {
	t.Helper()
	checkNames(t, "Global of "+name, safety.Global(r), global)
	checkNames(t, "Unsafe of "+name, safety.Unsafe(r), unsafe)
	if got := safety.Safe(api.Prog{Rules: []api.Rule{r}}); got != (unsafe == "") {
		t.Errorf("Safe of %s: %v", name, got)
	}
}

func checkSources(t *testing.T, cases [][3]string) {
	t.Helper()
	for _, c := range cases {
		checkRule(t, c[0], ruleOf(t, c[0]), c[1], c[2])
	}
}

// P8.1

func TestExamplesOfTheChapter(t *testing.T) {
	checkSources(t, [][3]string{
		{"p(X,Z) :- q(X,Y+1), not r(W), Z = X*2.", "W X Y Z", "W Y"},
		{"a :- b(X) : c(Y), Y = X; d(Z+1).", "Z", "Z"},
		{"{ p(X,Y) : q(Y) } :- r(X).", "X", ""},
		{":- #sum{ W,X : q(W,X) } > Z, n(Z).", "Z", ""},
		{":- X = Y.", "X Y", "X Y"},
	})
}

func TestPlacesOfGlobalVariables(t *testing.T) {
	checkSources(t, [][3]string{
		{"a.", "", ""}, {"p(1,f(a)).", "", ""}, {":- a.", "", ""}, {"p(X,Y).", "X Y", "X Y"}, {"p(f(X+1)) | q(1..Y) | a.", "X Y", "X Y"}, {"p(X) | q(Y) :- r(Y,X).", "X Y", ""},
		{"X { a } Y.", "X Y", "X Y"}, {"X { a }.", "X", "X"}, {"{ a } X+Y.", "X Y", "X Y"}, {"X { a } Y+1 :- n(X,Y).", "X Y", ""}, {"X { a } Y :- n(X).", "X Y", "Y"},
		{":~ a. [X@Y,Z,f(W)]", "W X Y Z", "W X Y Z"}, {":~ p(X,Y,Z,W). [X@Y,Z,f(W)]", "W X Y Z", ""}, {":~ p(X+1,Y), not q(Z), W = Y. [X@Y,Z,f(W)]", "W X Y Z", "X Z"}, {":~ p(X). [1@2]", "X", ""}, {":~ . [-X]", "X", "X"},
		{":- p(X), not q(Y), Z < W, V = 1.", "V W X Y Z", "W Y Z"},
		{":- #count{ 1 : a } < X.", "X", "X"}, {":- not #sum{ 1 : a } = X*2.", "X", "X"}, {":- #count{ 1 : a } < X+Y, n(X,Y).", "X Y", ""}, {":- #count{ 1 : a } < X, #sum{ 1 : a } > Y, p(X).", "X Y", "Y"},
		{"p(_,_1) :- q(_).", "_ _1", "_1"},
	})
}

func TestOrderOfNames(t *testing.T) {
	const increasing = "A AA AB B X X0 X1 X10 X2 XA X_ Xa _ _0 _1 _10 _2 _A __A __A_a"
	checkSources(t, [][3]string{
		{"p(f(_,__A_a,_A,__A),g(_10,_2,_1,_0),g(X,Xa,X_,XA,X2,X10,X1,X0),B,AB,AA,A).", increasing, increasing},
		{"{ p(f(_,__A_a,_A,__A),g(_10,_2,_1,_0),g(X,Xa,X_,XA,X2,X10,X1,X0),B,AB,AA,A) }.", "", increasing},
		{"p(X,X,f(X),X+X) :- X < X, not q(X), X = X, X != 1..X.", "X", "X"},
	})
	l := literalsOf(t, "p(f(_,__A_a,_A,__A),g(_10,_2,_1,_0),g(X,Xa,X_,XA)), q(X2,X10,X1,X0,B,AB,AA,A), q(X,X)")
	checkNames(t, "Bound", safety.Bound(l, nil), increasing)
}

// bodies are literals, variables that are given, those that are bound then, and those that are bound when nothing is given.
func bodies() [][4]string {
	return [][4]string{
		// Atoms bind variables outside of operations and intervals.
		{"a", "", "", ""}, {"a", "X Y", "X Y", ""}, {"p(X)", "", "X", "X"}, {"p(X)", "X", "X", "X"}, {"p(X,1,b,Y)", "Z", "X Y Z", "X Y"}, {"p(f(X,g(Y,h(f(Z)))))", "", "X Y Z", "X Y Z"}, {"p(X,X,f(X))", "", "X", "X"},
		{"p(X+Y)", "", "", ""}, {"p(X+1,Y)", "", "Y", "Y"}, {"p(-X)", "", "", ""}, {"p(X*1), p(X/1), p(X\\1), p(X-1)", "", "", ""}, {"p(1..X), p(X..1), p((X+1)..2)", "", "", ""}, {"p(f(X+1,Y),g(1..Z))", "", "Y", "Y"}, {"p(g(X)+1)", "", "", ""}, {"p(g(X)..1)", "", "", ""}, {"p(X+1,X)", "", "X", "X"}, {"p(f(X+1)), p(g(X))", "", "X", "X"},
		{"not p(X)", "", "", ""}, {"not p(X), p(Y), not q(Y)", "", "Y", "Y"}, {"not p(X)", "X", "X", ""},

		// Equations bind a side that is a variable when all variables of the other side are bound.
		{"X = 1", "", "X", "X"}, {"1 = X", "", "X", "X"}, {"X = f(a,1+2)", "", "X", "X"}, {"1..3 = X", "", "X", "X"}, {"X = 1/0", "", "X", "X"},
		{"X = Y", "", "", ""}, {"X = Y", "X", "X Y", ""}, {"X = Y", "Y", "X Y", ""}, {"X = Y", "Z", "Z", ""}, {"X = X", "", "", ""}, {"X = X+1", "", "", ""}, {"X = X", "X", "X", ""}, {"X = f(X,Y)", "Y", "Y", ""},
		{"X = Y+Z", "Y", "Y", ""}, {"X = Y+Z", "Y Z", "X Y Z", ""}, {"Y*Z = X", "Y Z", "X Y Z", ""}, {"X = Y+Z", "X Y", "X Y", ""}, {"X = Y+Y-Y", "Y", "X Y", ""}, {"X = Y..Z", "Z Y", "X Y Z", ""}, {"X = f(Y,g(Z))", "Z Y", "X Y Z", ""}, {"X = f(Y,g(Z))", "X", "X", ""},
		{"f(X) = f(1)", "", "", ""}, {"f(X) = f(Y)", "Y", "Y", ""}, {"X+1 = 2", "", "", ""}, {"-X = 2", "", "", ""}, {"X..X = 2", "", "", ""}, {"X+0 = Y", "Y", "Y", ""}, {"X+0 = Y", "X", "X Y", ""}, {"1 = 1, a = b, f(a) = 1..2", "", "", ""},
		{"X = Y+1, Y = X-1", "", "", ""}, {"X = Y+1, Y = X-1", "X", "X Y", ""}, {"X = Y, Y = Z, Z = X", "", "", ""}, {"X = Y, Y = Z, Z = X", "Y", "X Y Z", ""},

		// Other comparisons bind nothing.
		{"X != 1", "", "", ""}, {"X < 1", "", "", ""}, {"X <= 1", "", "", ""}, {"X > 1", "", "", ""}, {"X >= 1", "", "", ""}, {"1 != X, 1 < X, 1 <= X, 1 > X, 1 >= X", "", "", ""}, {"X >= 1, X <= 1, X < Y", "Y", "Y", ""},

		// The order of the literals does not matter.
		{"X = Y, Y = Z, Z = W, W = 1", "", "W X Y Z", "W X Y Z"}, {"W = 1, Z = W, Y = Z, X = Y", "", "W X Y Z", "W X Y Z"}, {"Z = W, X = Y, p(W), Y = Z", "", "W X Y Z", "W X Y Z"}, {"X = Y+Z, p(Y), q(Z)", "", "X Y Z", "X Y Z"}, {"X = Z+Y, p(Y), q(Z+1)", "", "Y", "Y"}, {"X = f(Y,Z,W), W = f(Y,Z), f(Y) = Z, q(Y)", "", "W X Y Z", "W X Y Z"}, {"V = W+X, X = Y+Z, W = Y*Z, Z = Y, p(Y)", "", "V W X Y Z", "V W X Y Z"}, {"V = W+X, X = Y+Z, W = Y*Z, Z = Y, p(Y+1)", "", "", ""}, {"X = Y+Z, X = Y+W, p(Y)", "W", "W X Y", "Y"},
		{"_ = 1, X = _", "", "X _", "X _"}, {"X = Y+_1, Y = 1", "_1", "X Y _1", "Y"},
	}
}

func TestBound(t *testing.T) {
	for _, c := range bodies() {
		l := literalsOf(t, c[0])
		checkNames(t, "Bound by "+c[0]+" given "+c[1], safety.Bound(l, strings.Fields(c[1])), c[2])
		checkNames(t, "Bound by "+c[0], safety.Bound(l, nil), c[3])
	}
}

// TestGlobalVariablesAreBoundByTheBody checks that the literals of a body bind its global variables, and that elements do not.
func TestGlobalVariablesAreBoundByTheBody(t *testing.T) {
	for _, c := range bodies() {
		global := variablesOf(literalsOf(t, c[0]))
		unsafe := without(global, c[3])
		local := without([]string{"X", "Y", "Z"}, text(global))
		elements := c[0] + "; b(X) : p(X,Y,Z); #sum{ X : p(X,Y,Z) } < 1."
		for src, want := range map[string]string{
			":- " + c[0] + ".":                       text(unsafe),
			"{ p(X,Y,Z) : p(X,Y,Z) } :- " + elements: text(unsafe),
			"{ p(X,Y,Z) } :- " + elements:            text(append(local, unsafe...)),
		} {
			checkRule(t, src, ruleOf(t, src), text(global), want)
		}
	}
}

// TestLocalVariablesAreBoundByTheCondition checks that the literals of a condition bind the local variables of each kind of elements, given the global ones.
func TestLocalVariablesAreBoundByTheCondition(t *testing.T) {
	for _, c := range bodies() {
		given := strings.Fields(c[1])
		body := ":- a"
		for _, name := range given {
			body += ", p(" + name + ")"
		}
		for _, src := range []string{"{ a : " + c[0] + " } " + body + ".", body + "; a : " + c[0] + ".", body + "; #count{ 1 : " + c[0] + " } > 0."} {
			unsafe := without(variablesOf(literalsOf(t, c[0])), c[2])
			checkRule(t, src, ruleOf(t, src), text(given), text(unsafe))
		}
	}
}

func TestElements(t *testing.T) {
	checkSources(t, [][3]string{
		// What is outside of the condition binds nothing.
		{"{ p(X) }.", "", "X"}, {"{ p(X) : q(Y) }.", "", "X"}, {"{ p(X,Y) : q(Y,X) }.", "", ""}, {"{ p(X+1) : q(X) }.", "", ""}, {"{ p(X) : q(X+1) }.", "", "X"}, {"{ p(X) : q(X) ; r(Y) }.", "", "Y"}, {"{ p(1..X) : X = 1..2 }.", "", ""},
		{":- b(X) : c.", "", "X"}, {":- X = 1 : c.", "", "X"}, {":- b(X) : c(X).", "", ""}, {":- not b(X,Y) : c(X).", "", "Y"}, {":- X < Y : c(X), Y = X+1.", "", ""}, {":- X < Y : c(X), Y+1 = X.", "", "Y"}, {":- b(X) : X = Y, c(Y).", "", ""}, {":- b(X) : X = Y.", "", "X Y"}, {":- b : not c(X).", "", "X"}, {":- b : X < 1.", "", "X"},
		{":- #count{ X } > 1.", "", "X"}, {":- #count{ X,Y : p(X) } > 1.", "", "Y"}, {":- #sum{ X : p(X+1) } > 1.", "", "X"}, {":- #sum{ X+1,f(Y) : p(X,Y) } > 1.", "", ""}, {":- not #sum{ X : not p(X) } > 1.", "", "X"}, {":- #count{ X : X = Y, Y = Z, Z = 1 } > 1.", "", ""},

		// A name can be local in several elements.
		{"{ p(X) : q(X) ; p(X) : r(Y) }.", "", "X"}, {"{ p(X) : r(Y) ; p(X) : q(X) }.", "", "X"}, {"{ p(X) : q(X) ; p(X) : r(X) }.", "", ""}, {"{ p(X) : q(X) } :- a(X) : b(X); a(X) : c.", "", "X"}, {":- #sum{ X : p(X) ; Y : q(Y) ; Y : p(X) } > 1.", "", "Y"}, {":- #sum{ X : p(X) } > 1; #sum{ X : q } > 1; a(X) : b(X).", "", "X"},
		{"{ a(Z) } :- b(Y) : c; #count{ X : a } > 1.", "", "X Y Z"}, {"{ a(X) : X = Y ; b(Y) : Y = 1 }.", "", "X Y"},

		// Global variables are given, be they safe or not, and only what is outside of the elements makes them so.
		{"{ p(X,Y) : q(X) } :- r(Y).", "Y", ""}, {"{ p(X,Y) : q(X) } :- not r(Y).", "Y", "Y"}, {"{ p(X) : X = Y+1 } :- not q(Y).", "Y", "Y"}, {"X { p(X) : q(X) }.", "X", "X"}, {"X { p(Y) : Y = X }.", "X", "X"}, {"{ p(Y) : Y = X*X } X :- q(X).", "X", ""}, {"p(X) :- b(X) : c(X).", "X", "X"}, {":- b(X) : c(X); not d(X).", "X", "X"}, {":- b(X) : c(X); d(X).", "X", ""}, {":- d(Y), Z = Y; b(X) : X = Z*2.", "Y Z", ""},
		{":- #count{ X : p(X) } = X.", "X", "X"}, {":- #count{ X : p(X,Y) } = Y, q(Y).", "Y", ""}, {":- #count{ X } = 1, p(X).", "X", ""}, {":- #sum{ X,Y : Y = X+Z } = Z, p(X).", "X Z", "Z"}, {":~ b(X) : X = Y. [1@1,Y]", "Y", "Y"}, {":~ b(X) : X = Y; c(W,V,Y). [W@V,Y]", "V W Y", ""},
		{"{ p(_) : q(_) }.", "", ""}, {"{ p(_) : q(_1) }.", "", "_"},
	})
}

// P8.2

func TestSafe(t *testing.T) {
	safe := []string{"a.", "p(X) :- q(X).", "{ p(X) : q(X) }.", ":- #sum{ X : p(X) } > Y, n(Y).", ":~ p(X). [X@1]"}
	unsafe := []string{"p(X).", "{ p(X) }.", ":- not p(X).", ":- #sum{ X : p(Y) } > 1.", "a :- b(X) : c.", ":~ a. [X@1]", "X { a }.", "{ a } X.", ":- #count{ 1 } > X."}
	var p api.Prog
	checkSafe(t, "the empty program", p, true)
	for _, src := range safe {
		p.Rules = append(p.Rules, ruleOf(t, src))
		checkSafe(t, src, p, true)
	}
	for _, src := range unsafe {
		for i := range len(safe) + 1 {
			q := api.Prog{Rules: slices.Insert(slices.Clone(p.Rules), i, ruleOf(t, src))}
			checkSafe(t, src, q, false)
		}
		checkSafe(t, src, api.Prog{Rules: []api.Rule{ruleOf(t, src)}}, false)
	}
	p.Consts = []api.Const{{Name: "n", Val: variable("X")}}
	checkSafe(t, "a program with a constant", p, true)
}

func checkSafe(t *testing.T, name string, p api.Prog, want bool) {
	t.Helper()
	if got := safety.Safe(p); got != want {
		t.Errorf("%s: %v", name, got)
	}
}
