package match_test

import (
	"strconv"
	"strings"
	"testing"

	"ostler/api"
	"ostler/match"
)

// P7.3

// none is what checkMatch expects if the pattern does not match.
const none = "none"

// checkMatch matches terms, and atoms that have these terms as one of several arguments, as the only one, and more deeply.
func checkMatch(t *testing.T, pattern, value, binding, want string) {
	t.Helper()
	p, v, b := termOf(t, pattern), termOf(t, value), bindingOf(t, binding)
	name := pattern + " with " + value + " in " + binding
	got, ok := match.Match(p, v, b)
	checkResult(t, name, got, ok, want)
	got, ok = match.MatchAtom(atom("p", p), atom("p", v), b)
	checkResult(t, "p of "+name, got, ok, want)
	a, f := symbol("a"), termOf(t, "f(1)")
	got, ok = match.MatchAtom(atom("p", a, f, p, f), atom("p", a, f, v, f), b)
	checkResult(t, "p of a, f(1) and "+name, got, ok, want)
}

func checkResult(t *testing.T, name string, got api.Binding, ok bool, want string) {
	t.Helper()
	if ok != (want != none) || !ok && len(got) > 0 || ok && bindingText(got) != want {
		t.Errorf("%s: %s, %v, want %s", name, bindingText(got), ok, want)
	}
}

func TestMatchWithoutOpenParts(t *testing.T) {
	for _, c := range [][4]string{
		{"1", "1", "", ""}, {"-7", "-7", "", ""}, {"a", "a", "", ""}, {"f(a,g(1))", "f(a,g(1))", "", ""}, {"a", "a", "Z=3", "Z=3"}, {"f(1)", "f(1)", "A=a B=f(b)", "A=a B=f(b)"},
		{"1", "2", "", none}, {"1", "-1", "", none}, {"1", "a", "", none}, {"a", "1", "", none}, {"a", "b", "", none}, {"a", "aa", "", none}, {"f(a)", "g(a)", "", none}, {"f(a)", "f(b)", "", none}, {"f", "f(a)", "", none}, {"f(a)", "f", "", none}, {"f(a)", "1", "", none}, {"f(a)", "f(a,a)", "", none}, {"f(a,a)", "f(a)", "", none}, {"f(g(1),2)", "f(g(2),2)", "", none}, {"a", "b", "Z=3", none},
		{"X", "1", "", "X=1"}, {"X", "a", "", "X=a"}, {"X", "f(a,g(1))", "", "X=f(a,g(1))"}, {"X", "a", "W=1 Y=2", "W=1 X=a Y=2"}, {"_1", "a", "", "_1=a"},
		{"X", "2", "X=2", "X=2"}, {"X", "2", "X=3", none}, {"X", "a", "X=f(a)", none}, {"X", "f(a)", "X=f(a) Y=1", "X=f(a) Y=1"}, {"X", "1", "XX=2", "X=1 XX=2"},
		{"f(X,g(Y))", "f(1,g(a))", "", "X=1 Y=a"}, {"f(Y,g(X))", "f(1,g(a))", "", "X=a Y=1"}, {"f(X,g(Y,X))", "f(1,g(a,1))", "", "X=1 Y=a"}, {"f(X,g(Y,X))", "f(1,g(a,2))", "", none}, {"f(X)", "f(1,2)", "", none}, {"f(X,Y)", "f(1)", "", none}, {"f(X)", "g(1)", "", none}, {"f(X)", "f", "", none}, {"f(X)", "1", "", none},
		{"f(X,X)", "f(1,1)", "", "X=1"}, {"f(X,X)", "f(1,2)", "", none}, {"f(X,X)", "f(1,-1)", "", none}, {"f(X,X,X)", "f(g(1),g(1),g(1))", "", "X=g(1)"}, {"f(X,X,X)", "f(g(1),g(1),g(2))", "", none}, {"f(X,X)", "f(g(1),g(1))", "X=g(2)", none}, {"f(X,X)", "f(1,a)", "", none},
		{"f(Y,X,Z)", "f(2,1,3)", "X=1", "X=1 Y=2 Z=3"}, {"f(Y,X,Z)", "f(2,1,3)", "X=2", none}, {"f(Y,X)", "f(2,1)", "X=1 Y=3", none}, {"f(B,AA,A,C)", "f(1,2,3,4)", "_=5", "A=3 AA=2 B=1 C=4 _=5"},
		{"f(_1,_10,_2,__X,X)", "f(1,2,3,4,5)", "", "X=5 _1=1 _10=2 _2=3 __X=4"},

		// The anonymous variable is a variable like the others.
		{"_", "1", "", "_=1"}, {"f(_,_)", "f(1,1)", "", "_=1"}, {"f(_,_)", "f(1,2)", "", none}, {"_", "1", "_=2", none},
	} {
		checkMatch(t, c[0], c[1], c[2], c[3])
	}
}

func TestMatchOpenParts(t *testing.T) {
	for _, c := range [][4]string{
		// Ground ones.
		{"2+2", "4", "", ""}, {"2+2", "5", "", none}, {"2+2", "a", "", none}, {"2+2", "f(4)", "", none}, {"-(3)", "-3", "", ""}, {"7/-2", "-3", "", ""}, {"-7\\2", "-1", "", ""}, {"f(2*3-1,a)", "f(5,a)", "", ""}, {"f(2*3-1,a)", "f(5,b)", "", none}, {"2-1-1", "0", "X=1", "X=1"},
		{"1..3", "1", "", ""}, {"1..3", "2", "", ""}, {"1..3", "3", "", ""}, {"1..3", "0", "", none}, {"1..3", "4", "", none}, {"1..3", "a", "", none}, {"3..1", "2", "", none}, {"3..1", "1", "", none}, {"a..3", "2", "", none}, {"(1..3)*10", "20", "", ""}, {"(1..3)*10", "25", "", none}, {"(1..2)..(3..4)", "4", "", ""}, {"(1..2)+(10..20)*10", "151", "", ""}, {"(1..2)+(10..20)*10", "150", "", none}, {"f(1..2,1..2)", "f(2,1)", "", ""}, {"f(1..2,1..2)", "f(2,3)", "", none}, {"f(g(1..2),h(2..3))", "f(g(2),h(3))", "", ""}, {"f(g(1..2),h(2..3))", "f(g(3),h(2))", "", none},
		{"1/0", "1", "", none}, {"1\\0", "0", "", none}, {"f(X,1/0)", "f(1,1)", "", none}, {"a+1", "1", "", none}, {"-a", "a", "", none}, {"f(1)+1", "2", "", none}, {"2147483647+1", "1", "", none}, {"2147483647+1-1", "2147483647", "", none}, {"0*(1/0)", "0", "", none}, {"1..1/0", "1", "", none},

		// Those with variables that are bound before, or by the pattern, earlier or later.
		{"X+1", "3", "X=2", "X=2"}, {"X+1", "4", "X=2", none}, {"X+1", "3", "X=a", none}, {"X+1", "3", "X=f(2)", none}, {"X..Y", "3", "X=2 Y=5", "X=2 Y=5"}, {"X..Y", "6", "X=2 Y=5", none}, {"X..Y", "3", "X=2 Y=a", none}, {"-X", "4", "X=-4 Z=1", "X=-4 Z=1"}, {"X-X", "0", "X=7", "X=7"},
		{"f(X,X+1)", "f(2,3)", "", "X=2"}, {"f(X+1,X)", "f(3,2)", "", "X=2"}, {"f(X+1,X)", "f(3,3)", "", none}, {"f(X+1,X)", "f(3,a)", "", none}, {"f(X+1,X)", "f(3,2)", "X=2", "X=2"}, {"f(X+1,X)", "f(3,2)", "X=3", none}, {"f(X+1,X,X*2)", "f(3,2,4)", "", "X=2"}, {"f(X+1,X,X*2)", "f(3,2,5)", "", none}, {"f(X+1,X,X*2)", "f(4,2,4)", "", none},
		{"f(X+Y,X,Y*2)", "f(3,1,4)", "Y=2", "X=1 Y=2"}, {"f(X+Y,X,Y*2)", "f(3,1,4)", "Y=1", none}, {"f(X+Y,g(Y,h(X)))", "f(3,g(1,h(2)))", "", "X=2 Y=1"}, {"f(X..X+2,X)", "f(7,5)", "", "X=5"}, {"f(X..X+2,X)", "f(8,5)", "", none}, {"f(X..X+2,X)", "f(7,a)", "", none}, {"f(g(X),-X)", "f(g(4),-4)", "", "X=4"}, {"f(-X,g(X))", "f(-4,g(4))", "", "X=4"}, {"f(h(X+1),h(X))", "f(h(3),h(2))", "", "X=2"}, {"f(X,Y,X..Y)", "f(3,1,2)", "", none}, {"f(X/Y,X,Y)", "f(3,7,2)", "", "X=7 Y=2"}, {"f(X/Y,X,Y)", "f(3,7,0)", "", none},

		// Those with variables that are not bound: nothing outside of the open part is said about them.
		{"X+1", "3", "", none}, {"X-X", "0", "", none}, {"0*X", "0", "", none}, {"X..X", "1", "", none}, {"1..X", "1", "", none}, {"f(X+1,X+1)", "f(3,3)", "", none}, {"f(Y,X+1)", "f(2,3)", "", none}, {"f(X,X+Y)", "f(1,3)", "", none}, {"X+1", "3", "Y=2", none}, {"f(_,_+1)", "f(1,2)", "", "_=1"}, {"_+1", "2", "", none},

		// Variables in the arguments of operands are no outer ones.
		{"f(X)+1", "2", "", none}, {"f(X)..3", "2", "", none}, {"g(f(X)+1,X)", "g(2,1)", "", none},

		// Values are not evaluated in reverse, and patterns of other kinds not evaluated at all.
		{"f(X*2,Y)", "f(4,2)", "", none}, {"f(1)", "f(1)", "X=1", "X=1"}, {"3", "3", "", ""},
	} {
		checkMatch(t, c[0], c[1], c[2], c[3])
	}
}

// TestMatchManyExpansions checks that only a single open part can have too many expansions.
func TestMatchManyExpansions(t *testing.T) {
	for _, c := range [][4]string{
		{"1..1000", "1000", "", ""}, {"1..1001", "5", "", none}, {"0..1000", "1000", "", none}, {"f(1..1000,1..1000)", "f(1000,1)", "", ""}, {"f(1..1000,1..1000)", "f(1000,1001)", "", none}, {"f(1..1000,1..1001)", "f(1,1)", "", none}, {"f(X,1..X)", "f(1000,7)", "", "X=1000"}, {"f(X,1..X)", "f(1001,7)", "", none}, {"f(1..X,X)", "f(7,1000)", "", "X=1000"}, {"f(1..X,X)", "f(7,1001)", "", none},
		{"(1..1001)*0", "0", "", none}, {"(1..1000)*0", "0", "", ""}, {"(1..1001)/0", "0", "", none}, {"(1..500)+(1..501)", "1001", "", ""}, {"(1..501)+(1..501)", "2", "", none}, {"0..(1..1000)", "1", "", none}, {"1..(1..1000)", "1", "", ""},
		{"f(g(1..1000),g(1..1000),h(1..1000,a),1..1000)", "f(g(1),g(2),h(3,a),4)", "", ""},
	} {
		checkMatch(t, c[0], c[1], c[2], c[3])
	}
}

func TestMatchDepth(t *testing.T) {
	x, one := variable("X"), number(1)
	for depth := 1; depth <= api.MaxDepth; depth++ {
		for inner := range depth {
			b, ok := match.Match(tower(depth-inner, x), tower(depth, one), nil)
			if v, _ := match.Get(b, "X"); !ok || len(b) != 1 || !match.Test(api.OpEq, v, tower(inner+1, one)) {
				t.Error(depth, inner, b)
			}
		}
	}
	sum := termOf(t, "1+1")
	b, ok := match.Match(tower(11, sum), tower(11, number(2)), nil)
	checkResult(t, "an open part of depth 12", b, ok, "")
	b, ok = match.Match(function("f", x, api.Term{Kind: api.TermRange, Args: []api.Term{tower(11, x), one}}), function("f", tower(11, one), one), nil)
	checkResult(t, "an open part that becomes too deep", b, ok, none)
}

func TestMatchInvalid(t *testing.T) {
	x, y, one := variable("X"), variable("Y"), number(1)
	for i, bad := range invalidTerms() {
		checkNoMatch(t, i, bad, one, nil)
		checkNoMatch(t, i, bad, bad, nil)
		checkNoMatch(t, i, x, bad, nil)
		checkNoMatch(t, i, x, bad, api.Binding{pair("X", one)})
		checkNoMatch(t, i, function("f", x, bad), function("f", one, one), nil)
		checkNoMatch(t, i, function("f", x, bad), function("f", one, bad), nil)
		checkNoMatch(t, i, function("f", x, y), function("f", one, bad), nil)
	}
	for i, v := range notValues() {
		checkNoMatch(t, i, x, v, nil)
		checkNoMatch(t, i, v, v, nil)
		checkNoMatch(t, i, function("f", x), function("f", v), nil)
	}
	for i, b := range invalidBindings() {
		checkNoMatch(t, i, x, one, b)
		checkNoMatch(t, i, one, one, b)
		checkNoMatch(t, i, variable("V"), one, b)
	}
}

// checkNoMatch matches terms, and atoms of these terms.
func checkNoMatch(t *testing.T, i int, p, v api.Term, b api.Binding) {
	t.Helper()
	if got, ok := match.Match(p, v, b); ok || len(got) > 0 {
		t.Errorf("%d: Match of %.200v with %.200v: %v", i, p, v, got)
	}
	if got, ok := match.MatchAtom(atom("p", number(1), p), atom("p", number(1), v), b); ok || len(got) > 0 {
		t.Errorf("%d: MatchAtom of %.200v with %.200v: %v", i, p, v, got)
	}
}

// P7.3: MatchAtom

func TestMatchAtom(t *testing.T) {
	x, y, one, two := variable("X"), variable("Y"), number(1), number(2)
	sum := termOf(t, "X+1")
	for i, c := range []struct {
		p, v    api.Atom
		b, want string
	}{
		{atom("p", x, y), atom("p", one, two), "", "X=1 Y=2"}, {atom("p", y, x), atom("p", one, two), "Z=a", "X=2 Y=1 Z=a"}, {atom("p", x, x), atom("p", one, two), "", none}, {atom("p", x, x), atom("p", two, two), "", "X=2"}, {atom("p", x, y), atom("p", one, two), "X=2", none}, {atom("p", sum, x), atom("p", two, one), "", "X=1"}, {atom("p", sum, x), atom("p", one, one), "", none}, {atom("p", sum), atom("p", two), "", none}, {atom("p", sum), atom("p", two), "X=1", "X=1"},
		{atom("p", one), atom("q", one), "", none}, {atom("p", x), atom("q", one), "", none}, {atom("p", one), atom("p", two), "", none}, {atom("p", x), atom("pp", one), "", none}, {atom("pp", x), atom("p", one), "", none},
		{atom("p", x), atom("p", one, two), "", none}, {atom("p", x, y), atom("p", one), "", none}, {atom("p", x), atom("p"), "", none}, {atom("p"), atom("p", one), "", none},
		{atom("p"), atom("p"), "", ""}, {atom("p"), atom("p"), "X=1 Y=f(2)", "X=1 Y=f(2)"}, {atom("p"), atom("q"), "", none},

		// Nothing is said about predicates but that they are the same.
		{atom("", x), atom("", one), "", "X=1"}, {atom("X", x), atom("X", one), "", "X=1"}, {atom("not"), atom("not"), "", ""}, {atom(strings.Repeat("a", 99)), atom(strings.Repeat("a", 99)), "", ""}, {atom("", x), atom("\x00", one), "", none}, {api.Atom{}, api.Atom{}, "", ""},
	} {
		got, ok := match.MatchAtom(c.p, c.v, bindingOf(t, c.b))
		checkResult(t, "case "+strconv.Itoa(i), got, ok, c.want)
	}
	for i, b := range invalidBindings() {
		if got, ok := match.MatchAtom(atom("p"), atom("p"), b); ok || len(got) > 0 {
			t.Error(i, got)
		}
	}
}

// TestMatchManyArguments matches atoms with fewer and with more arguments than a function term can have.
func TestMatchManyArguments(t *testing.T) {
	for count := range 300 {
		var patterns, values []api.Term
		for i := range count {
			name := "X" + strings.Repeat("x", (i*7)%31)
			patterns = append(patterns, variable(name), api.Term{Kind: api.TermOp, Name: "-", Args: []api.Term{variable(name)}})
			values = append(values, number(i*7%31), number(-(i * 7 % 31)))
		}
		b, ok := match.MatchAtom(atom("p", patterns...), atom("p", values...), nil)
		if !ok || len(b) != min(count, 31) || !match.Valid(b) {
			t.Fatal(count, b, ok)
		}
		for _, x := range b {
			if x.Val.Num != len(x.Name)-1 {
				t.Error(count, x)
			}
		}
		values = append(values, number(1))
		if b, ok := match.MatchAtom(atom("p", patterns...), atom("p", values...), nil); ok || len(b) > 0 {
			t.Error(count, b)
		}
		patterns = append(patterns, number(2))
		if b, ok := match.MatchAtom(atom("p", patterns...), atom("p", values...), nil); ok || len(b) > 0 {
			t.Error(count, b)
		}
	}
}

func TestMatchDeepArguments(t *testing.T) {
	x, one := variable("X"), number(1)
	deep := tower(api.MaxDepth, one)
	b, ok := match.MatchAtom(atom("p", tower(api.MaxDepth, x), deep), atom("p", deep, deep), nil)
	checkResult(t, "patterns of depth 12", b, ok, "X=1")
	b, ok = match.MatchAtom(atom("p", x, one, x), atom("p", deep, one, deep), nil)
	checkResult(t, "values of depth 12", b, ok, "X=f(f(f(f(f(f(f(f(f(f(f(1)))))))))))")
	b, ok = match.MatchAtom(atom("p", tower(api.MaxDepth-1, termOf(t, "X+1")), x), atom("p", tower(api.MaxDepth-1, number(2)), one), nil)
	checkResult(t, "an open part", b, ok, "X=1")
	b, ok = match.MatchAtom(atom("p", x), atom("p", tower(api.MaxDepth+1, one)), nil)
	checkResult(t, "a value of depth 13", b, ok, none)
	b, ok = match.MatchAtom(atom("p", tower(api.MaxDepth+1, x)), atom("p", tower(api.MaxDepth+1, one)), nil)
	checkResult(t, "a pattern of depth 13", b, ok, none)
	b, ok = match.Match(function("p", tower(api.MaxDepth, x)), function("p", deep), nil)
	checkResult(t, "terms of depth 13", b, ok, none)
}

// TestExample is the example of the chapter.
func TestExample(t *testing.T) {
	checkMatch(t, "f(X,g(Y))", "f(1,g(a))", "", "X=1 Y=a")
	checkMatch(t, "f(X,X)", "f(1,2)", "", none)
	checkMatch(t, "X+1", "3", "X=2", "X=2")
	checkMatch(t, "X+1", "3", "", none)
	checkMatch(t, "1..3", "2", "", "")
	if got := match.Apply(termOf(t, "X+Y"), bindingOf(t, "X=2")); !match.Test(api.OpEq, got, termOf(t, "2+Y")) {
		t.Error(got)
	}
}
