package format_test

import (
	"strings"
	"testing"

	"ostler/api"
	"ostler/format"
	"ostler/parse"
)

// read parses a source that must not have errors.
func read[T any](t *testing.T, parse func(string) (T, int, api.Errno), src string) T {
	t.Helper()
	x, at, e := parse(src)
	if e != api.OK {
		t.Fatalf("%.200q: error %d at %d", src, e, at)
	}
	return x
}

func ruleOf(t *testing.T, src string) api.Rule { return read(t, parse.Rule, src) }

func termOf(t *testing.T, src string) api.Term { return read(t, parse.Term, src) }

func programOf(t *testing.T, src string) api.Prog { return read(t, parse.Parse, src) }

// checkRule checks the source of a rule, or, if it is to be empty, that the rule has none.
func checkRule(t *testing.T, name string, r api.Rule, want string) {
	t.Helper()
	e := api.OK
	if want == "" {
		e = api.ErrArg
	}
	if got, gotE := format.Rule(r); got != want || gotE != e {
		t.Errorf("%.200s: %.200q, error %d, want %.200q, error %d", name, got, gotE, want, e)
	}
}

// P5.1: sources

func TestSources(t *testing.T) {
	for _, src := range []string{
		"a.", "a | b | c.", "a :- b.", ":- b.", "p(X,-1) | q(f(a,b)) :- r.",
		"{ a }.", "{ a; p(X) : q(X); b }.", "{ a : b, not c, X != 2; d }.", "1 { a }.", "{ a } 2.", "1 { a } 2.", "n { a } m :- b.", "f(1) { a } X+1.", "1..2 { a } 3..4.", "-X { a } -1.", "{ a } :- b, c.",
		":~. [1@0]", ":~ a. [1@0,X]", ":~ a, not b : c; d. [-1@-2,X,f(Y),1..2]", ":~ a : b. [X*Y@N]",
		":- not a, b.", ":- a : b.", ":- a : b, c; d, e : f; g.", ":- not a : not b, X = 1; X < Y : p(X,Y).",
		":- X = 1, X != 2, X < 3, X <= 4, X > 5, X >= 6.", ":- a = b, f(X) < 2, 1 >= -1, p(1) : f(1) = p(1); (1..2)+1 = X.",
		":- #count{ 1 } = 2.", ":- #sum{ X,Y : p(X), q(Y); 1; -1 : not a } < X.", ":- not #count{ X } <= 1..2, a.", ":- a, #sum{ a } > b, not #sum{ f(a),b } >= -1.", ":- a : b; #count{ 1 : a } = 1, c.",
		"_a_ | __b(_,_1,__X) :- aB1.", "nota :- not _not.", "p(2147483647,-2147483647,0).",
		"p(1-2-3,1-(2-3),-(5),--X,-X*Y,-(X*Y),X--5,X*-Y).", "p((1..2)*2,1+2..3,(1..2)..3,-5..-6,-(-5),1..(2..3)).",
		"p(1,2,3,4,5,6,7,8) :- X\\Y/Z = X\\(Y/Z).",
	} {
		checkRule(t, src, ruleOf(t, src), src)
	}
}

func TestSourcesOfOtherLayouts(t *testing.T) {
	for src, want := range map[string]string{
		"a|b:-c,d;e.":                     "a | b :- c, d, e.",
		" a % c\n . ":                     "a.",
		"{a:b;c}:-d:e;f.":                 "{ a : b; c } :- d : e; f.",
		"1{a}2:-b.":                       "1 { a } 2 :- b.",
		"(X){a}(1..2).":                   "X { a } 1..2.",
		":~a;b.[1]":                       ":~ a, b. [1@0]",
		":~.[1,X,(Y)]":                    ":~. [1@0,X,Y]",
		":~ a. [ X @ Y , Z ]":             ":~ a. [X@Y,Z]",
		":-not#count{X,Y:a,b;Z}>=1,c;d.":  ":- not #count{ X,Y : a, b; Z } >= 1, c, d.",
		":-#sum {1}=2;a.":                 ":- #sum{ 1 } = 2, a.",
		":-X=1,X!=2,X<-3,X<=4,X>5,X>=-6.": ":- X = 1, X != 2, X < -3, X <= 4, X > 5, X >= -6.",
		":-((a))=(1)-(2)*(3),-0=X.":       ":- a = 1-2*3, 0 = X.",
		"p( 1 , ( 2 ) , f ( a , b ) ).":   "p(1,2,f(a,b)).",
	} {
		checkRule(t, src, ruleOf(t, src), want)
	}
}

// TestExamples are the examples of the chapter.
func TestExamples(t *testing.T) {
	for _, src := range []string{"p(X+1) | q :- r(X), not s : t(X), u; X < -3.", "1 { a : b; c } 2.", ":- #count{ X,Y : p(X), q(Y); 1 } >= 2, a.", ":~ a. [1@0,X]", ":~. [2@1]"} {
		checkRule(t, src, ruleOf(t, src), src)
	}
	r := ruleOf(t, "a | b.")
	r.Heads[1].Cond = ruleOf(t, "{ b : c }.").Heads[0].Cond
	checkRule(t, "condition in a disjunction", r, "")
}

// TestWrittenOut formats rules that the parser had no part in.
func TestWrittenOut(t *testing.T) {
	one, x := api.Term{Kind: api.TermInt, Num: 1}, api.Term{Kind: api.TermVar, Name: "X", Args: []api.Term{}}
	p := api.Atom{Pred: "p", Args: []api.Term{x, one}}
	not := api.Lit{Kind: api.LitAtom, Not: true, Atom: p}
	less := api.Lit{Kind: api.LitComp, Op: api.OpLt, L: x, R: one}
	body := []api.Body{
		{Kind: api.BodyCond, Lit: less, Cond: []api.Lit{not, less}},
		{Kind: api.BodyLit, Lit: not, Cond: []api.Lit{}},
		{Kind: api.BodyAgg, Not: true, Fun: api.AggSum, Elems: []api.Elem{{Tuple: []api.Term{one, x}, Cond: []api.Lit{not}}, {Tuple: []api.Term{x}}}, Op: api.OpGe, Bound: x},
		{Kind: api.BodyAgg, Fun: api.AggCount, Elems: []api.Elem{{Tuple: []api.Term{x}}}, Op: api.OpEq, Bound: one},
	}
	src := "X < 1 : not p(X,1), X < 1; not p(X,1), not #sum{ 1,X : not p(X,1); X } >= X, #count{ X } = 1."
	heads := []api.Head{{Atom: p}, {Atom: api.Atom{Pred: "q", Args: []api.Term{}}}}
	for want, r := range map[string]api.Rule{
		"p(X,1) | q :- " + src:          {Kind: api.RuleDisj, Heads: heads, Body: body},
		":- " + src:                     {Kind: api.RuleDisj, Heads: []api.Head{}, Body: body},
		"p(X,1) | q.":                   {Kind: api.RuleDisj, Heads: heads, Tuple: []api.Term{}},
		"{ p(X,1); q } X :- " + src:     {Kind: api.RuleChoice, Heads: heads, Upper: x, Body: body},
		"1 { p(X,1) : X < 1 }.":         {Kind: api.RuleChoice, Heads: []api.Head{{Atom: p, Cond: []api.Lit{less}}}, Lower: one},
		":~ " + src + " [X@1,X,1]":      {Kind: api.RuleWeak, Body: body, Weight: x, Level: one, Tuple: []api.Term{x, one}},
		":~. [1@X]":                     {Kind: api.RuleWeak, Weight: one, Level: x},
		":- not p(X,1).":                {Kind: api.RuleDisj, Body: body[1:2]},
		":- X < 1 : not p(X,1), X < 1.": {Kind: api.RuleDisj, Body: body[:1]},
	} {
		checkRule(t, want, r, want)
	}
}

// P5.1: rules without a source

const (
	disjunction = "p(X) | q :- r(X), not s : t(X), X < 1; X < -3, not #sum{ X : p(X), not q; 1 } >= 2."
	choice      = "1 { p(X) : q, X = 1; r } 2 :- s."
	minimized   = ":~ a. [1@2,X]"
)

func TestInvalidRules(t *testing.T) {
	one := termOf(t, "1")
	for _, kind := range []uint8{0, 4, 5, 255} {
		for _, src := range []string{disjunction, choice, minimized} {
			r := ruleOf(t, src)
			r.Kind = kind
			checkRule(t, "unknown kind of rule", r, "")
		}
	}
	for _, kind := range []uint8{api.RuleDisj, api.RuleChoice, api.RuleWeak} {
		checkRule(t, "nothing but a kind", api.Rule{Kind: kind}, "")
		r := ruleOf(t, disjunction)
		r.Kind = kind
		r.Upper, r.Weight = one, one
		checkRule(t, "parts of all kinds", r, "")
	}
	checkRule(t, "zero", api.Rule{}, "")
	checkRule(t, "choice without choices", api.Rule{Kind: api.RuleChoice, Lower: one, Upper: one}, "")
	checkRule(t, "no level", api.Rule{Kind: api.RuleWeak, Weight: one}, "")
	checkRule(t, "no weight", api.Rule{Kind: api.RuleWeak, Level: one}, "")
	checkRule(t, "invalid zero bound", api.Rule{Kind: api.RuleChoice, Heads: []api.Head{{Atom: api.Atom{Pred: "a"}}}, Lower: api.Term{Num: 1}}, "")
	checkRule(t, "bound of a negative kind", api.Rule{Kind: api.RuleChoice, Heads: []api.Head{{Atom: api.Atom{Pred: "a"}}}, Upper: api.Term{Kind: 255}}, "")
}

func TestInvalidParts(t *testing.T) {
	one, a := termOf(t, "1"), api.Lit{Kind: api.LitAtom, Atom: api.Atom{Pred: "a"}}
	for name, change := range map[string]func(r *api.Rule){
		"condition of a disjunct":         func(r *api.Rule) { r.Heads[0].Cond = []api.Lit{a} },
		"lower bound":                     func(r *api.Rule) { r.Lower = one },
		"upper bound":                     func(r *api.Rule) { r.Upper = one },
		"weight":                          func(r *api.Rule) { r.Weight = one },
		"level":                           func(r *api.Rule) { r.Level = one },
		"level of kind 0":                 func(r *api.Rule) { r.Level.Num = 1 },
		"tuple":                           func(r *api.Rule) { r.Tuple = []api.Term{one} },
		"no name in the head":             func(r *api.Rule) { r.Heads[0].Atom.Pred = "" },
		"variable in the head":            func(r *api.Rule) { r.Heads[1].Atom.Pred = "Q" },
		"zero argument":                   func(r *api.Rule) { r.Heads[0].Atom.Args[0] = api.Term{} },
		"invalid argument":                func(r *api.Rule) { r.Heads[0].Atom.Args[0].Num = 1 },
		"kind of a literal":               func(r *api.Rule) { r.Body[0].Lit.Kind = 3 },
		"comparison instead of an atom":   func(r *api.Rule) { r.Body[0].Lit.Kind = api.LitComp },
		"operator of an atom":             func(r *api.Rule) { r.Body[0].Lit.Op = api.OpEq },
		"left side of an atom":            func(r *api.Rule) { r.Body[0].Lit.L = one },
		"right side of an atom":           func(r *api.Rule) { r.Body[0].Lit.R = one },
		"condition of a literal":          func(r *api.Rule) { r.Body[0].Cond = []api.Lit{a} },
		"negated body element":            func(r *api.Rule) { r.Body[0].Not = true },
		"function of a literal":           func(r *api.Rule) { r.Body[0].Fun = api.AggSum },
		"elements of a literal":           func(r *api.Rule) { r.Body[0].Elems = []api.Elem{{}} },
		"operator of a literal":           func(r *api.Rule) { r.Body[0].Op = api.OpEq },
		"bound of a literal":              func(r *api.Rule) { r.Body[0].Bound = one },
		"kind of a body element":          func(r *api.Rule) { r.Body[0].Kind = 4 },
		"no kind of a body element":       func(r *api.Rule) { r.Body[0].Kind = 0 },
		"empty condition":                 func(r *api.Rule) { r.Body[1].Cond = nil },
		"invalid condition":               func(r *api.Rule) { r.Body[1].Cond[0] = api.Lit{} },
		"condition without a kind for it": func(r *api.Rule) { r.Body[1].Kind = api.BodyLit },
		"negated comparison":              func(r *api.Rule) { r.Body[2].Lit.Not = true },
		"atom of a comparison":            func(r *api.Rule) { r.Body[2].Lit.Atom.Pred = "a" },
		"arguments of a comparison":       func(r *api.Rule) { r.Body[2].Lit.Atom.Args = []api.Term{one} },
		"no operator":                     func(r *api.Rule) { r.Body[2].Lit.Op = 0 },
		"unknown operator":                func(r *api.Rule) { r.Body[2].Lit.Op = 7 },
		"no left side":                    func(r *api.Rule) { r.Body[2].Lit.L = api.Term{} },
		"no right side":                   func(r *api.Rule) { r.Body[2].Lit.R = api.Term{} },
		"literal of an aggregate":         func(r *api.Rule) { r.Body[3].Lit = a },
		"condition of an aggregate":       func(r *api.Rule) { r.Body[3].Cond = []api.Lit{a} },
		"no function":                     func(r *api.Rule) { r.Body[3].Fun = 0 },
		"unknown function":                func(r *api.Rule) { r.Body[3].Fun = 3 },
		"no elements":                     func(r *api.Rule) { r.Body[3].Elems = nil },
		"empty tuple":                     func(r *api.Rule) { r.Body[3].Elems[0].Tuple = nil },
		"invalid tuple":                   func(r *api.Rule) { r.Body[3].Elems[0].Tuple[0].Name = "x" },
		"!= of an aggregate":              func(r *api.Rule) { r.Body[3].Op = api.OpNe },
		"no operator of an aggregate":     func(r *api.Rule) { r.Body[3].Op = 0 },
		"other operator of an aggregate":  func(r *api.Rule) { r.Body[3].Op = 255 },
		"no bound":                        func(r *api.Rule) { r.Body[3].Bound = api.Term{} },
		"aggregate as a literal":          func(r *api.Rule) { r.Body[3].Kind = api.BodyLit },
	} {
		r := ruleOf(t, disjunction)
		change(&r)
		checkRule(t, name, r, "")
	}
}

func TestInvalidChoicesAndCosts(t *testing.T) {
	one := termOf(t, "1")
	for name, change := range map[string]func(choice, weak *api.Rule){
		"weight and no weight": func(c, w *api.Rule) { c.Weight, w.Weight = one, api.Term{} },
		"level and no level":   func(c, w *api.Rule) { c.Level, w.Level = one, api.Term{} },
		"tuple":                func(c, w *api.Rule) { c.Tuple, w.Tuple[0].Name = []api.Term{one}, "x" },
		"lower bound":          func(c, w *api.Rule) { c.Lower.Num, w.Lower = api.MaxInt+1, one },
		"upper bound":          func(c, w *api.Rule) { c.Upper.Kind, w.Upper = api.TermVar, one },
		"heads":                func(c, w *api.Rule) { c.Heads, w.Heads = nil, []api.Head{{Atom: api.Atom{Pred: "a"}}} },
		"body":                 func(c, w *api.Rule) { c.Body[0], w.Body[0] = api.Body{}, api.Body{} },
		"condition":            func(c, w *api.Rule) { c.Heads[0].Cond[1].Op, w.Body[0].Cond = 0, []api.Lit{{}} },
	} {
		c, w := ruleOf(t, choice), ruleOf(t, minimized)
		change(&c, &w)
		checkRule(t, name+" of a choice", c, "")
		checkRule(t, name+" of a weak constraint", w, "")
	}
}

// TestNames puts strings in the place of names that are none, although some of them make a source that can be parsed.
func TestNames(t *testing.T) {
	for _, name := range []string{"", " ", "a ", " a", "a%", "a\n", "%\na", "not", "not a", "A", "_", "_1", "1", "-", "a.", "a. b", "a | b", "a, b", "a; b", "a :- b", "a : b", "a = b", "a(1)", "a()", "(a)", "a-b", "a+1", "#sum", "é", "\x00", "a\x00", "__", strings.Repeat("a", api.MaxName+1)} {
		for _, src := range []string{disjunction, choice, minimized} {
			r := ruleOf(t, src)
			if len(r.Heads) > 0 {
				r.Heads[0].Atom.Pred = name
				checkRule(t, "head "+name, r, "")
			}
			r = ruleOf(t, src)
			r.Body[0].Lit.Atom.Pred = name
			checkRule(t, "body "+name, r, "")
		}
		r := ruleOf(t, "p(a,f(b)).")
		r.Heads[0].Atom.Args[0].Name = name
		checkRule(t, "symbol "+name, r, "")
		r = ruleOf(t, "p(a,f(b)).")
		r.Heads[0].Atom.Args[1].Name = name
		checkRule(t, "function "+name, r, "")
	}
}

// P5.1: literals

func TestLiterals(t *testing.T) {
	for _, src := range []string{"a", "not a", "p(X,f(1))", "not p(-1)", "X = 1", "a != b", "f(X) < -(1)", "1..2 <= X", "X > Y", "X-1 >= 2*Y", "_1 = _"} {
		l := ruleOf(t, ":- "+src+".").Body[0].Lit
		if got, e := format.Lit(l); got != src || e != api.OK {
			t.Errorf("%q: %q, error %d", src, got, e)
		}
	}
}

func TestInvalidLiterals(t *testing.T) {
	one := termOf(t, "1")
	a, less := api.Atom{Pred: "a", Args: []api.Term{one}}, api.Lit{Kind: api.LitComp, Op: api.OpLt, L: one, R: one}
	literals := []api.Lit{
		{}, {Atom: a}, {Kind: 3, Atom: a}, {Kind: 255, Op: api.OpLt, L: one, R: one}, {Kind: api.LitAtom}, {Kind: api.LitAtom, Not: true}, {Kind: api.LitAtom, Atom: a, Op: api.OpLt}, {Kind: api.LitAtom, Atom: a, L: one}, {Kind: api.LitAtom, Atom: a, R: one}, {Kind: api.LitAtom, Op: api.OpLt, L: one, R: one},
		{Kind: api.LitComp}, {Kind: api.LitComp, Atom: a}, {Kind: api.LitComp, Not: true, Op: api.OpLt, L: one, R: one}, {Kind: api.LitComp, Op: api.OpLt, L: one}, {Kind: api.LitComp, Op: api.OpLt, R: one}, {Kind: api.LitComp, L: one, R: one}, {Kind: api.LitComp, Op: 7, L: one, R: one}, {Kind: api.LitComp, Atom: a, Op: api.OpLt, L: one, R: one},
		{Kind: api.LitAtom, Atom: api.Atom{Pred: "a", Args: []api.Term{{}}}}, {Kind: api.LitAtom, Atom: api.Atom{Pred: "a", Args: []api.Term{{Kind: api.TermInt, Name: "a"}}}}, {Kind: api.LitComp, Op: api.OpLt, L: one, R: api.Term{Kind: api.TermSym, Name: "X"}},
	}
	for _, name := range []string{"X", "not a", "a, b", "a : b", "a. b", "a%", "a ", "a = b", "a :- b", "a, not b"} {
		literals = append(literals, api.Lit{Kind: api.LitAtom, Atom: api.Atom{Pred: name}})
	}
	for _, l := range literals {
		if got, e := format.Lit(l); got != "" || e != api.ErrArg {
			t.Errorf("%+v: %q, error %d", l, got, e)
		}
	}
	if got, e := format.Lit(less); got != "1 < 1" || e != api.OK {
		t.Errorf("%q, error %d", got, e)
	}
}
