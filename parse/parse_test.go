package parse_test

import (
	"fmt"
	"strings"
	"testing"

	"ostler/api"
	"ostler/parse"
)

func num(n int) api.Term { return api.Term{Kind: api.TermInt, Num: n} }

func sym(s string) api.Term { return api.Term{Kind: api.TermSym, Name: s} }

func variable(s string) api.Term { return api.Term{Kind: api.TermVar, Name: s} }

func fun(s string, args ...api.Term) api.Term {
	return api.Term{Kind: api.TermFun, Name: s, Args: args}
}

func op(s string, args ...api.Term) api.Term {
	return api.Term{Kind: api.TermOp, Name: s, Args: args}
}

func interval(from, to api.Term) api.Term {
	return api.Term{Kind: api.TermRange, Args: []api.Term{from, to}}
}

func atom(pred string, args ...api.Term) api.Atom { return api.Atom{Pred: pred, Args: args} }

func is(a api.Atom) api.Lit { return api.Lit{Kind: api.LitAtom, Atom: a} }

func isNot(a api.Atom) api.Lit { return api.Lit{Kind: api.LitAtom, Not: true, Atom: a} }

func comp(l api.Term, op uint8, r api.Term) api.Lit {
	return api.Lit{Kind: api.LitComp, L: l, Op: op, R: r}
}

func lit(l api.Lit) api.Body { return api.Body{Kind: api.BodyLit, Lit: l} }

func cond(l api.Lit, cond ...api.Lit) api.Body {
	return api.Body{Kind: api.BodyCond, Lit: l, Cond: cond}
}

func head(pred string, args ...api.Term) api.Head { return api.Head{Atom: atom(pred, args...)} }

func constraint(body ...api.Body) api.Rule { return api.Rule{Kind: api.RuleDisj, Body: body} }

func weak(weight, level api.Term, tuple ...api.Term) api.Rule {
	return api.Rule{Kind: api.RuleWeak, Weight: weight, Level: level, Tuple: tuple}
}

// same reports whether all fields are equal, where a nil slice equals an empty one.
func same(a, b any) bool { return fmt.Sprintf("%+v", a) == fmt.Sprintf("%+v", b) }

// outcome is the offset and the error of a call, and whether the result is the zero value.
type outcome struct {
	at   int
	e    api.Errno
	zero bool
}

func parseProgram(src string) outcome {
	p, at, e := parse.Parse(src)
	return outcome{at, e, same(p, api.Prog{})}
}

func parseRule(src string) outcome {
	r, at, e := parse.Rule(src)
	return outcome{at, e, same(r, api.Rule{})}
}

func parseTerm(src string) outcome {
	t, at, e := parse.Term(src)
	return outcome{at, e, same(t, api.Term{})}
}

// checkError checks that an error is reported at the place that ^ marks.
func checkError(t *testing.T, function func(string) outcome, marked string, e api.Errno) {
	t.Helper()
	before, after, _ := strings.Cut(marked, "^")
	if got, want := function(before+after), (outcome{len(before), e, true}); got != want {
		t.Errorf("%.80q: %+v, want %+v", marked, got, want)
	}
}

func checkOK(t *testing.T, src string) {
	t.Helper()
	if got := parseProgram(src); got.at != 0 || got.e != api.OK || got.zero {
		t.Errorf("%.80q: %+v", src, got)
	}
}

// P4.1: terms

func TestTerms(t *testing.T) {
	x, a := variable("X"), sym("a")
	for src, want := range map[string]api.Term{
		"0":             num(0),
		"2147483647":    num(api.MaxInt),
		"-2147483647":   num(-api.MaxInt),
		"-0":            num(0),
		"a":             a,
		"_":             variable("_"),
		"f(a)":          fun("f", a),
		"f(1..2,X+1)":   fun("f", interval(num(1), num(2)), op("+", x, num(1))),
		"f(g(a),(a))":   fun("f", fun("g", a), a),
		"((f(a)))":      fun("f", a),
		"1+X":           op("+", num(1), x),
		"1-X":           op("-", num(1), x),
		"1*X":           op("*", num(1), x),
		"1/X":           op("/", num(1), x),
		"1\\X":          op("\\", num(1), x),
		"1..X":          interval(num(1), x),
		"1-2+3":         op("+", op("-", num(1), num(2)), num(3)),
		"1-(2+3)":       op("-", num(1), op("+", num(2), num(3))),
		"8/4*2\\3":      op("\\", op("*", op("/", num(8), num(4)), num(2)), num(3)),
		"1+2*3-4":       op("-", op("+", num(1), op("*", num(2), num(3))), num(4)),
		"(1+2)*3":       op("*", op("+", num(1), num(2)), num(3)),
		"1+2..3*4":      interval(op("+", num(1), num(2)), op("*", num(3), num(4))),
		"(1..2)+3":      op("+", interval(num(1), num(2)), num(3)),
		"(1..2)..3":     interval(interval(num(1), num(2)), num(3)),
		"1..(2..3)":     interval(num(1), interval(num(2), num(3))),
		"- 3":           num(-3),
		"- % c\n 3":     num(-3),
		"-(3)":          op("-", num(3)),
		"-X":            op("-", x),
		"-a":            op("-", a),
		"-f(X)":         op("-", fun("f", x)),
		"--3":           op("-", num(-3)),
		"---3":          op("-", op("-", num(-3))),
		"--X":           op("-", op("-", x)),
		"1-3":           op("-", num(1), num(3)),
		"1 -3":          op("-", num(1), num(3)),
		"1--3":          op("-", num(1), num(-3)),
		"1-(-3)":        op("-", num(1), num(-3)),
		"(1)-3":         op("-", num(1), num(3)),
		"X*-3":          op("*", x, num(-3)),
		"-3*X":          op("*", num(-3), x),
		"-X*3":          op("*", op("-", x), num(3)),
		"-X-3":          op("-", op("-", x), num(3)),
		"-1..-2":        interval(num(-1), num(-2)),
		"f(-1,-(1),-X)": fun("f", num(-1), op("-", num(1)), op("-", x)),
	} {
		if got, at, e := parse.Term(src); !same(got, want) || at != 0 || e != api.OK {
			t.Errorf("%q: %+v, %d, error %d", src, got, at, e)
		}
	}
}

// P4.1: rules

func TestDisjunctions(t *testing.T) {
	x := variable("X")
	checkRules(t, map[string]api.Rule{
		"a.":          {Kind: api.RuleDisj, Heads: []api.Head{head("a")}},
		"p(X,1..2).":  {Kind: api.RuleDisj, Heads: []api.Head{head("p", x, interval(num(1), num(2)))}},
		"a|b | f(X).": {Kind: api.RuleDisj, Heads: []api.Head{head("a"), head("b"), head("f", x)}},
		"a :- b.":     {Kind: api.RuleDisj, Heads: []api.Head{head("a")}, Body: []api.Body{lit(is(atom("b")))}},
		"a | a :- a.": {Kind: api.RuleDisj, Heads: []api.Head{head("a"), head("a")}, Body: []api.Body{lit(is(atom("a")))}},
		":- a.":       constraint(lit(is(atom("a")))),
		"p(X+1) | q :- r(X), not s : t(X), u; X < -3.": {Kind: api.RuleDisj, Heads: []api.Head{head("p", op("+", x, num(1))), head("q")}, Body: []api.Body{
			lit(is(atom("r", x))), cond(isNot(atom("s")), is(atom("t", x)), is(atom("u"))), lit(comp(x, api.OpLt, num(-3)))}},
	})
}

func TestChoices(t *testing.T) {
	x, b := variable("X"), []api.Lit{is(atom("b"))}
	choice := func(lower, upper api.Term, heads ...api.Head) api.Rule {
		return api.Rule{Kind: api.RuleChoice, Lower: lower, Upper: upper, Heads: heads}
	}
	withBody := choice(num(0), api.Term{}, head("a"))
	withBody.Body = []api.Body{lit(is(atom("b")))}
	none := api.Term{}
	checkRules(t, map[string]api.Rule{
		"{a}.":   choice(none, none, head("a")),
		"{a;a}.": choice(none, none, head("a"), head("a")),
		"{a:b;p(X):not b,X!=1}.": choice(none, none, api.Head{Atom: atom("a"), Cond: b},
			api.Head{Atom: atom("p", x), Cond: []api.Lit{isNot(atom("b")), comp(x, api.OpNe, num(1))}}),
		"1 { a : b; c } 2.": choice(num(1), num(2), api.Head{Atom: atom("a"), Cond: b}, head("c")),
		"0 {a} :- b.":       withBody,
		"{a} 0.":            choice(none, num(0), head("a")),
		"-1 {a} -2.":        choice(num(-1), num(-2), head("a")),
		"a {a} a.":          choice(sym("a"), sym("a"), head("a")),
		"f(X) {a} f(X).":    choice(fun("f", x), fun("f", x), head("a")),
		"(a) {a} (a).":      choice(sym("a"), sym("a"), head("a")),
		"a+1 {a} X*2.":      choice(op("+", sym("a"), num(1)), op("*", x, num(2)), head("a")),
		"f(1)..2 {a} 1..X.": choice(interval(fun("f", num(1)), num(2)), interval(num(1), x), head("a")),
		"X {a} -X.":         choice(x, op("-", x), head("a")),
	})
}

func TestBodies(t *testing.T) {
	x, a, b := variable("X"), is(atom("a")), is(atom("b"))
	checkRules(t, map[string]api.Rule{
		":- a, b; not b.":           constraint(lit(a), lit(b), lit(isNot(atom("b")))),
		":- X=1,X!=1,X<1.":          constraint(lit(comp(x, api.OpEq, num(1))), lit(comp(x, api.OpNe, num(1))), lit(comp(x, api.OpLt, num(1)))),
		":- X<=1;X>1;X>=1.":         constraint(lit(comp(x, api.OpLe, num(1))), lit(comp(x, api.OpGt, num(1))), lit(comp(x, api.OpGe, num(1)))),
		":- a = b.":                 constraint(lit(comp(sym("a"), api.OpEq, sym("b")))),
		":- f(X) < (a).":            constraint(lit(comp(fun("f", x), api.OpLt, sym("a")))),
		":- (a) < f(X).":            constraint(lit(comp(sym("a"), api.OpLt, fun("f", x)))),
		":- a+1 = 1..2.":            constraint(lit(comp(op("+", sym("a"), num(1)), api.OpEq, interval(num(1), num(2))))),
		":- f(X).":                  constraint(lit(is(atom("f", x)))),
		":- not f(X).":              constraint(lit(isNot(atom("f", x)))),
		":- a : b.":                 constraint(cond(a, b)),
		":- a : b, not a, X = 1.":   constraint(cond(a, b, isNot(atom("a")), comp(x, api.OpEq, num(1)))),
		":- a : b; b.":              constraint(cond(a, b), lit(b)),
		":- a, b : a; X < 1 : b.":   constraint(lit(a), cond(b, a), cond(comp(x, api.OpLt, num(1)), b)),
		":- not a : not b, b; a;b.": constraint(cond(isNot(atom("a")), isNot(atom("b")), b), lit(a), lit(b)),
	})
}

func TestAggregates(t *testing.T) {
	x, a, b := variable("X"), is(atom("a")), is(atom("b"))
	one := []api.Elem{{Tuple: []api.Term{num(1)}}}
	agg := func(not bool, fun, op uint8, bound api.Term, elems ...api.Elem) api.Body {
		return api.Body{Kind: api.BodyAgg, Not: not, Fun: fun, Op: op, Bound: bound, Elems: elems}
	}
	checkRules(t, map[string]api.Rule{
		":- #count{1} = 0.":          constraint(agg(false, api.AggCount, api.OpEq, num(0), one...)),
		":- #sum{1} < X.":            constraint(agg(false, api.AggSum, api.OpLt, x, one...)),
		":- not #count{1} <= -1.":    constraint(agg(true, api.AggCount, api.OpLe, num(-1), one...)),
		":- not #sum{1} > 1..2.":     constraint(agg(true, api.AggSum, api.OpGt, interval(num(1), num(2)), one...)),
		":- a, #sum{1} >= a, b.":     constraint(lit(a), agg(false, api.AggSum, api.OpGe, sym("a"), one...), lit(b)),
		":- #sum{1} = 1; a : b.":     constraint(agg(false, api.AggSum, api.OpEq, num(1), one...), cond(a, b)),
		":- a : b; #sum{1} = f(X).":  constraint(cond(a, b), agg(false, api.AggSum, api.OpEq, fun("f", x), one...)),
		":- #sum{1; a; f(X)} = 1.":   constraint(agg(false, api.AggSum, api.OpEq, num(1), one[0], api.Elem{Tuple: []api.Term{sym("a")}}, api.Elem{Tuple: []api.Term{fun("f", x)}})),
		":- #sum{1,X..2,a : a} = 1.": constraint(agg(false, api.AggSum, api.OpEq, num(1), api.Elem{Tuple: []api.Term{num(1), interval(x, num(2)), sym("a")}, Cond: []api.Lit{a}})),
		":- #sum{X : not a, b, X < 1; X : a} = 1.": constraint(agg(false, api.AggSum, api.OpEq, num(1),
			api.Elem{Tuple: []api.Term{x}, Cond: []api.Lit{isNot(atom("a")), b, comp(x, api.OpLt, num(1))}}, api.Elem{Tuple: []api.Term{x}, Cond: []api.Lit{a}})),
	})
}

func TestWeakConstraints(t *testing.T) {
	x := variable("X")
	withBody := weak(x, num(2), num(1), fun("f", x))
	withBody.Body = []api.Body{lit(is(atom("a"))), cond(is(atom("b")), is(atom("c")))}
	checkRules(t, map[string]api.Rule{
		":~. [1]":                       weak(num(1), num(0)),
		":~. [1@0]":                     weak(num(1), num(0)),
		":~. [-1@-2]":                   weak(num(-1), num(-2)),
		":~. [X+1@X-1,X..1,a]":          weak(op("+", x, num(1)), op("-", x, num(1)), interval(x, num(1)), sym("a")),
		":~. [1,2]":                     weak(num(1), num(0), num(2)),
		":~ a, b : c. [X @ 2, 1, f(X)]": withBody,
	})
}

// checkRules checks rules, alone and within a program.
func checkRules(t *testing.T, cases map[string]api.Rule) {
	t.Helper()
	first := api.Rule{Kind: api.RuleDisj, Heads: []api.Head{head("first")}}
	for src, want := range cases {
		if got, at, e := parse.Rule(src); !same(got, want) || at != 0 || e != api.OK {
			t.Errorf("%q: %+v, %d, error %d", src, got, at, e)
		}
		if got, at, e := parse.Parse("first. " + src + " " + src); !same(got, api.Prog{Rules: []api.Rule{first, want, want}}) || at != 0 || e != api.OK {
			t.Errorf("%q in a program: %+v, %d, error %d", src, got, at, e)
		}
	}
}

// P4.1: programs

func TestPrograms(t *testing.T) {
	x := variable("X")
	a, b, c := api.Rule{Kind: api.RuleDisj, Heads: []api.Head{head("a")}}, constraint(lit(is(atom("b")))), weak(num(1), num(0))
	element := weak(num(3), num(2), x)
	element.Body = []api.Body{lit(is(atom("p", x))), lit(isNot(atom("q"))), lit(comp(x, api.OpLt, num(1)))}
	for src, want := range map[string]api.Prog{
		"":                      {},
		" % a.":                 {},
		"a. :- b. :~. [1]":      {Rules: []api.Rule{a, b, c}},
		":~. [1] :- b. a. a.":   {Rules: []api.Rule{c, b, a, a}},
		"#minimize{1}.":         {Rules: []api.Rule{c}},
		"a. #minimize{1;1}. a.": {Rules: []api.Rule{a, c, c, a}},
		"#minimize { 3@2, X : p(X), not q, X < 1; 1; 1@0,X }.": {Rules: []api.Rule{element, c, weak(num(1), num(0), x)}},
		"#const n = 1. #const m = n+X. #const n = f(1..2).":    {Consts: []api.Const{{Name: "n", Val: num(1)}, {Name: "m", Val: op("+", sym("n"), x)}, {Name: "n", Val: fun("f", interval(num(1), num(2)))}}},
		"#show.":                                {Some: true},
		"#show. #show.":                         {Some: true},
		"#show b/0. #show a/2147483647.":        {Some: true, Shows: []api.Sig{{Name: "b"}, {Name: "a", Arity: api.MaxInt}}},
		"#show a/1. #show. #show a/1.":          {Some: true, Shows: []api.Sig{{Name: "a", Arity: 1}, {Name: "a", Arity: 1}}},
		"a. #show a/0. :- b. #const n = 1. a. ": {Rules: []api.Rule{a, b, a}, Consts: []api.Const{{Name: "n", Val: num(1)}}, Shows: []api.Sig{{Name: "a"}}, Some: true},
	} {
		if got, at, e := parse.Parse(src); !same(got, want) || at != 0 || e != api.OK {
			t.Errorf("%q: %+v, %d, error %d", src, got, at, e)
		}
	}
}

// P4.1: ErrSyntax

func TestSyntaxErrors(t *testing.T) {
	for _, marked := range []string{
		"a^", "a ^", "a % c^", "a ^b.", "a^, b.", "a^; b.", "a. ^]", "^.", "^|", "^)", "^not a.", "^=", "^#count.", "^#sum{1} = 1.", "^[1]",
		"a |^.", "a | ^X.", "a | ^1 {b}.", "a | ^(", "a | ^not b.", "a | b ^{c}.", "a | b ^: c.", "a ^: b.", "a ^= b.", "a ^< 1 {b}.",
		"X^.", "1 ^:- a.", "(a)^.", "a+1^.", "-a^.", "a..b ^:- c.", "X ^| a.", "(f(a)) ^| b.", "1 ^2",
		"a :-^", "a :- ^.", "a :- ^:- b.", "a :- b ^:- c.", ":-^", ":- ^.", ":- a^", ":- a,^", ":- a,^.", ":- a;^.", ":- ^,a.", ":- a ^b.", ":- a ^| b.",
		":- ^#show.", ":- ^#minimize{1}.", ":- a..^", ":- ^{a}.", ":- a ^{b}.", ":- 1 ^{b} 2.",
		":- not^", ":- not ^not a.", ":- not ^X = 1.", ":- not ^1.", ":- not ^(a).", ":- not a ^= 1.", ":- not a ^+ 1 = 1.", ":- not ^.", ":- not ^#show.",
		":- 3^.", ":- X^.", ":- X^, a.", ":- (a)^.", ":- a+1^.", ":- -a^.", ":- a..b^.", ":- 1 ^: a.", ":- X = ^.", ":- X = 1 ^= 2.", ":- 1 < X ^< 3.", ":- X =^", ":- X = ^not a.",
		":- a : ^.", ":- a :^", ":- a : b ^: c.", ":- a : b, ^.", ":- a : b, ^; c.", ":- a : b; ^.", ":- a : b, c ^: d.", ":- a : ^#count{1} = 1.", ":- a : b, not ^#sum{1} = 1.", ":- a : 1^.",
		":- #sum ^1.", ":- #sum^", ":- #count{^} = 1.", ":- #count{1^", ":- #count{1^)", ":- #count{1:^} = 1.", ":- #count{1;^} = 1.", ":- #count{1,^} = 1.", ":- #count{1:a;^} = 1.", ":- #count{1:a,^} = 1.", ":- #count{1:a ^: b} = 1.", ":- #count{^:a} = 1.", ":- #count{^not a} = 1.", ":- #count{1 ^| 2} = 1.", ":- #count{1 ^= 2} = 1.",
		":- #count{1} ^!= 1.", ":- #count{1}^.", ":- #count{1}^, a.", ":- #count{1} = ^.", ":- #count{1} = 1 ^= 1.", ":- #count{1} = 1 ^: a.", ":- 1 = ^#count{1}.", ":- 1 ^#count{1}.", ":- not ^not #count{1} = 1.", ":- #count^(",
		"{^}.", "{a;^}.", "{a^,b}.", "{a^|b}.", "{a:^}.", "{a:b,^}.", "{a:b;^}.", "{a:b^:c}.", "{a:b^|c}.", "{^1}.", "{^X}.", "{^(a)}.", "{^not a}.", "{a ^= b}.", "{a ^+ b}.", "{a : b}^", "{a} ^{b}.", "{a} 1 ^{b}.", "{a} ^= 1.", "{a} 1 ^2.", "{a} 1 ^| b.", "{a} ^| b.", "{a^", "1 {a} 2 ^, b.", "{a} ^not.",
		":~ a^", ":~ a.^", ":~ a. ^b.", ":~ ^:- a.", ":~^", ":~ ^[", ":~. [^]", ":~. [1^", ":~. [1 @^]", ":~. [1@2 ^@ 3]", ":~. [1,2 ^@ 3]", ":~. [1,^]", ":~. [1^;2]", ":~. [1^:a]", ":~. [1]^.", ":~. [1] ^| a", ":~. ^a", ":~ a,^. [1]",
		"#const^", "#const ^X = 1.", "#const ^1 = 1.", "#const ^not = 1.", "#const n ^< 1.", "#const n ^!= 1.", "#const n^(", "#const n =^.", "#const n = 1 ^= 2.", "#const n = 1^", "#const n = 1^, 2.", "#const n = 1 ^{a}.",
		"#show^", "#show p^.", "#show ^X/1.", "#show ^1.", "#show ^not/1.", "#show p/^X.", "#show p/^-1.", "#show p/^.", "#show p/^(1).", "#show p/1 ^+ 1.", "#show p/1^", "#show p/1 ^/ 2.", "#show p/1^, q/1.", "#show p^(",
		"#minimize^", "#minimize^.", "#minimize{^}.", "#minimize{1;^}.", "#minimize{1^.", "#minimize{1}^", "#minimize{1} ^a.", "#minimize{1} ^= 1.", "#minimize{1:^}.", "#minimize{1:a,^}.", "#minimize{1:a^|b}.", "#minimize{1@^}.", "#minimize{1,^}.", "#minimize{1:a^:b}.", "#minimize{1@2 ^@ 3}.", "#minimize{^not a}.", "#minimize ^1.", "#minimize^[1].",
		"p(^).", "p(^", "p(1^", "p(1,^).", "p(1,^,2).", "p(1^;2).", "p(1..2 ^.. 3).", "p(1 ^= 2).", "p(^not a).", "p(1^.", "p(1)^(2).", "p(X ^Y).", "p(^:a).", "p(1+^).", "p(^+1).", "p(-^).", "p(^*1).", "p(1 +^* 2).", "p((1^,2)).", "p((^)).", "p((1^.", "p(X^(1)).", "p(1^(2)).", "p(^..1).", "p(1..^).", "p(1^@2).", "p(^{a}).", "p(1 ^a).", "p(a ^b).", "p(^#count{1}).", "p(1-^not).",
	} {
		checkError(t, parseProgram, marked, parse.ErrSyntax)
	}
}
