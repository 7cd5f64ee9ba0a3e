package depend_test

import (
	"testing"

	"ostler/api"
	"ostler/depend"
)

func TestExampleOfTheChapter(t *testing.T) {
	const facts = "e(1,2). t(X,Y) :- e(X,Y). t(X,Z) :- t(X,Y), e(Y,Z). n :- not s(1). "
	p := programOf(t, facts+"{ s(X) : e(X,Y) }.")
	check(t, "the example", p, expected{
		"e/2 n/0 s/1 t/2", "n/0 -s/1, s/1 e/2, s/1 -e/2, t/2 e/2, t/2 t/2", "e/2; s/1; n/0; t/2", "t/2", "e/2 t/2",
	})
	checkConds(t, "the example", p, api.OK)
	checkConds(t, "the changed example", programOf(t, facts+"{ s(X) : t(X,Y), n }."), depend.ErrCond)
}

// P9.1

func TestOf(t *testing.T) {
	for _, text := range []string{"a/0", "p/1", "p/8", "/0", "/3", "X/1", "\xff\x00/2", "not/100"} {
		same(t, "Of", textOf(depend.Of(atom(text))), text)
	}
	same(t, "Of the zero atom", textOf(depend.Of(api.Atom{})), "/0")
}

func TestLess(t *testing.T) {
	increasing := []api.Sig{{Arity: -1}, sig("/0"), sig("/1"), sig("\x00/0"), sig("A/0"), sig("B/5"), sig("a/0"), sig("a/2"), sig("a/10"), sig("a\x00/0"), sig("aB/0"), sig("aa/0"), sig("aa/1"), sig("ab/0"), sig("b/0"), sig("é/0"), sig("\xff/0")}
	for i, a := range increasing {
		for k, b := range increasing {
			if depend.Less(a, b) != (i < k) {
				t.Errorf("Less(%v, %v): %v", a, b, i >= k)
			}
		}
	}
}

func TestOrderOfPredicates(t *testing.T) {
	p := program(api.Rule{Kind: api.RuleDisj, Heads: []api.Head{head("b/2"), head("b/10"), head("B/3"), head("ab/0"), head("a/1"), head("a/0"), head("b/2"), head("\xff/0"), head("/0")}})
	same(t, "Sigs", sigsText(depend.Sigs(p)), "/0 B/3 a/0 a/1 ab/0 b/2 b/10 \xff/0")
	same(t, "Components", componentsText(depend.Components(p)), "/0 B/3 a/0 a/1 ab/0 b/2 b/10 \xff/0")
	p.Rules[0].Kind = api.RuleChoice
	same(t, "Components", componentsText(depend.Components(p)), "/0; B/3; a/0; a/1; ab/0; b/2; b/10; \xff/0")
	same(t, "Domain", sigsText(depend.Domain(program(api.Rule{Body: []api.Body{{Cond: []api.Lit{positive("b/0"), negative("a/2"), positive("a/10"), positive("a/2"), positive("B/0")}}}}))), "B/0 a/2 a/10 b/0")
}

func TestPlacesOfPredicates(t *testing.T) {
	for src, want := range map[string]string{
		"":                         "",
		"a.":                       "a/0",
		"a | b(1) | a(2,3).":       "a/0 a/2 b/1",
		"{ a : b(1), not c ; d }.": "a/0 b/1 c/0 d/0",
		":- a, not b, X < Y.":      "a/0 b/0",
		":- a : b, not c, 1 = 2.":  "a/0 b/0 c/0",
		":- not a : 1 = 2; 1 = 2.": "a/0",
		":- 1 = 2 : a; not b(X).":  "a/0 b/1",
		":- #sum { 1,f(a) : b, not c(1) ; g : 1 = 2 ; h : d } > e.":       "b/0 c/1 d/0",
		"n { a } m :- b. :~ c(X). [X@2,k] #const d = e. #show f/1. :- g.": "a/0 b/0 c/1 g/0",
	} {
		same(t, "Sigs of "+src, sigsText(depend.Sigs(programOf(t, src))), want)
	}
}

func TestEdges(t *testing.T) {
	for src, want := range map[string]string{
		"":                                       "",
		"a. b(1). {c}. :- a, not b. :~ a. [1@2]": "",
		"a :- b.":                                "a/0 b/0",
		"a :- not b.":                            "a/0 -b/0",
		"a :- not b, b.":                         "a/0 b/0, a/0 -b/0",
		"a :- b, b. a :- b.":                     "a/0 b/0",
		"a :- a.":                                "a/0 a/0",
		"a :- not a.":                            "a/0 -a/0",
		"a(X) :- b(X,Y), X < Y, not a(Y,X).":     "a/1 -a/2, a/1 b/2",
		"a :- b : c.":                            "a/0 b/0, a/0 -b/0, a/0 c/0, a/0 -c/0",
		"a :- not b : not c, 1 = 2.":             "a/0 b/0, a/0 -b/0, a/0 c/0, a/0 -c/0",
		"a :- 1 = 2 : b(1).":                     "a/0 b/1, a/0 -b/1",
		"a :- #sum { 1 : b, not c ; d : e } > 0.": "a/0 b/0, a/0 -b/0, a/0 c/0, a/0 -c/0, a/0 e/0, a/0 -e/0",
		"a :- not #count { 1 : b } > 0, not c.":   "a/0 b/0, a/0 -b/0, a/0 -c/0",
		"a | b.":                                  "a/0 b/0, b/0 a/0",
		"a | a.":                                  "a/0 a/0",
		"a(1) | a(2) | b.":                        "a/1 a/1, a/1 b/0, b/0 a/1",
		"a | b | c :- d, not e.":                  "a/0 b/0, a/0 c/0, a/0 d/0, a/0 -e/0, b/0 a/0, b/0 c/0, b/0 d/0, b/0 -e/0, c/0 a/0, c/0 b/0, c/0 d/0, c/0 -e/0",
		"{ a ; b } :- c, not d.":                  "a/0 c/0, a/0 -d/0, b/0 c/0, b/0 -d/0",
		"{ a ; a ; b }.":                          "",
		"{ a : b, not c ; d : e ; f }.":           "a/0 b/0, a/0 -b/0, a/0 c/0, a/0 -c/0, d/0 e/0, d/0 -e/0",
		"1 { a : b ; a : c } 2 :- not b.":         "a/0 b/0, a/0 -b/0, a/0 c/0, a/0 -c/0",
		"{ a : a }.":                              "a/0 a/0, a/0 -a/0",
		"{ a : b ; b : a }.":                      "a/0 b/0, a/0 -b/0, b/0 a/0, b/0 -a/0",
		"b :- a. a(1) :- c. a(1,2) :- b. a :- b.": "a/0 b/0, a/1 c/0, a/2 b/0, b/0 a/0",
	} {
		same(t, "Edges of "+src, edgesText(depend.Edges(programOf(t, src))), want)
	}
}

func TestOrderOfEdges(t *testing.T) {
	var body []api.Body
	for _, text := range []string{"b/10", "b/2", "B/0", "ab/1", "a/1"} {
		body = append(body, bodyLit(negative(text)), bodyLit(positive(text)))
	}
	p := program(api.Rule{Kind: api.RuleChoice, Heads: []api.Head{head("b/10"), head("b/2"), head("B/0")}, Body: body})
	ends := func(from string) string {
		text := ""
		for _, to := range []string{"B/0", "a/1", "ab/1", "b/2", "b/10"} {
			text += ", " + from + " " + to + ", " + from + " -" + to
		}
		return text[2:]
	}
	same(t, "Edges", edgesText(depend.Edges(p)), ends("B/0")+", "+ends("b/2")+", "+ends("b/10"))
}

// P9.2

// TestComponents has texts of the components, and of those of them that are recursive.
func TestComponents(t *testing.T) {
	for src, want := range map[string][2]string{
		"":                                   {"", ""},
		":- 1 = 2.":                          {"", ""},
		"a.":                                 {"a/0", ""},
		"a :- a.":                            {"a/0", "a/0"},
		"a :- not a.":                        {"a/0", "a/0"},
		"a(1) :- a. a :- a(1,2).":            {"a/2; a/0; a/1", ""},
		"a :- b. b :- c.":                    {"c/0; b/0; a/0", ""},
		"a :- b. b :- not c. c :- d : a. d.": {"d/0; a/0 b/0 c/0", "a/0 b/0 c/0"},
		"a :- #sum { 1 : b } > 0. b :- a.":   {"a/0 b/0", "a/0 b/0"},
		"a | b.":                             {"a/0 b/0", "a/0 b/0"},
		"a | a.":                             {"a/0", "a/0"},
		"c | a. b | c. d.":                   {"a/0 b/0 c/0; d/0", "a/0 b/0 c/0"},
		"{ a ; b }.":                         {"a/0; b/0", ""},
		"{ a : b ; b }.":                     {"b/0; a/0", ""},
		"{ a : b ; b : a }.":                 {"a/0 b/0", "a/0 b/0"},
		"{ a ; b } :- a.":                    {"a/0; b/0", "a/0"},
		"{ a ; b } :- b.":                    {"b/0; a/0", "b/0"},
		"{ a ; c } :- b. b :- c.":            {"b/0 c/0; a/0", "b/0 c/0"},
		":- a, b, not c. :~ d. [1@2]":        {"a/0; b/0; c/0; d/0", ""},

		// What becomes possible is listed at once if it precedes what is possible already.
		"a :- d. b. c. d. e.":                      {"b/0; c/0; d/0; a/0; e/0", ""},
		"a :- c. b :- d. e.":                       {"c/0; a/0; d/0; b/0; e/0", ""},
		"a :- e. b :- c. d.":                       {"c/0; b/0; d/0; e/0; a/0", ""},
		"b :- z. a :- y.":                          {"y/0; a/0; z/0; b/0", ""},
		"a :- e. b :- a, d. c :- b. f :- a. d.":    {"d/0; e/0; a/0; b/0; c/0; f/0", ""},
		"a | z :- m. b | y. c.":                    {"b/0 y/0; c/0; m/0; a/0 z/0", "b/0 y/0; a/0 z/0"},
		"{ a ; c } :- d. b. e.":                    {"b/0; d/0; a/0; c/0; e/0", ""},
		"m :- a, z. a :- n. z :- m. b :- m. n. x.": {"n/0; a/0; m/0 z/0; b/0; x/0", "m/0 z/0"},
		"a :- b, b, not b. a :- b. b :- c.":        {"c/0; b/0; a/0", ""},
	} {
		p := programOf(t, src)
		got := results(p)
		same(t, "Components of "+src, got.components, want[0])
		same(t, "Recursive of "+src, got.recursive, want[1])
	}
}

func TestRecursive(t *testing.T) {
	p := programOf(t, "a :- b, not c. c :- c. d | e | e. { f : g ; h } :- i. j(1) :- j. k :- l : m; #sum { 1 : n } > 0. o :- not p. :- q, r.")
	for slice, want := range map[string]bool{
		"": false, "a/0": false, "b/0": false, "a/0 b/0": true, "b/0 a/0": true, "b/0 c/0": true, "c/0": true, "a/0 c/0": true, "a/0 a/0": false, "c/0 c/0": true,
		"d/0": false, "e/0": true, "d/0 e/0": true, "d/0 d/0": false,
		"f/0 g/0": true, "f/0 h/0": false, "h/0 g/0": false, "f/0 i/0": true, "h/0 i/0": true, "g/0 i/0": false,
		"j/0": false, "j/1": false, "j/0 j/1": true, "j/0 j/2": false,
		"k/0 l/0": true, "m/0 k/0": true, "k/0 n/0": true, "l/0 m/0 n/0": false, "o/0 p/0": true, "q/0 r/0": false,
		"x/0": false, "x/0 a/0 y/3 a/0 b/1 b/0": true, "a/1 b/1 c/1 d/0 f/0 j/0 k/0 o/0 q/0": false, "a/0 d/0 f/0 j/0 k/0 o/0 q/0 g/0": true,
	} {
		if got := depend.Recursive(p, sigs(slice)); got != want {
			t.Errorf("Recursive of %s: %v", slice, got)
		}
	}
	if depend.Recursive(p, []api.Sig{{Name: "a"}, {Name: "b", Arity: -1}, {}}) || depend.Recursive(api.Prog{}, sigs("a/0")) {
		t.Error("Recursive of what has no edge")
	}
}

// P9.3

func TestDomain(t *testing.T) {
	for src, want := range map[string]string{
		"":                               "",
		"a.":                             "a/0",
		":- a, not b. :~ c. [1@2]":       "a/0 b/0 c/0",
		"a(1..3). b(X) :- a(X), X < 2.":  "a/1 b/1",
		"a :- a.":                        "a/0",
		"a :- b. b :- a. c :- not a.":    "a/0 b/0 c/0",
		"a :- not a.":                    "",
		"a :- not a, b. c :- not b.":     "b/0 c/0",
		"a :- not b. b :- not a.":        "",
		"a :- not b. b :- c. c :- a.":    "",
		"a :- not b. b :- c. c :- b.":    "a/0 b/0 c/0",
		"a :- b : c.":                    "a/0 b/0 c/0",
		"a :- not b : not c.":            "a/0 b/0 c/0",
		"a :- a : b.":                    "b/0",
		"a :- b : a.":                    "b/0",
		"a :- b : c. c :- a.":            "b/0",
		"a :- #count { 1 : b } > 0.":     "b/0",
		"a :- #count { 1 } > 0. b :- a.": "",
		"a. a :- b, not #sum { 1 } > 0.": "b/0",
		"a | b. c.":                      "c/0",
		"a | a.":                         "",
		"a | b :- c. c. d :- a. e :- d.": "c/0",
		"{ a }.":                         "",
		"{ a : b } :- c.":                "b/0 c/0",
		"{ a : b ; c }. b.":              "b/0",
		"a. { a }. b :- a.":              "",
		"1 { a } 1. b :- not a. c :- b : d. e :- f : b. g :- h.": "d/0 f/0 g/0 h/0",
		"a :- b. { b(1) }.":             "a/0 b/0",
		"{ b }. b(1). a :- b(1).":       "a/0 b/1",
		":- #sum { 1 : a } > 0. a | b.": "",
	} {
		same(t, "Domain of "+src, sigsText(depend.Domain(programOf(t, src))), want)
	}
}

// P9.4

func TestConds(t *testing.T) {
	// The predicates d and e are domain predicates, the others are not.
	const rules = "d. e :- d, not f. { a }. b :- a. c :- not c. "
	for src, want := range map[string]api.Errno{
		"":                                  api.OK,
		"{ x : d }.":                        api.OK,
		"{ x : d, not e, g(X), 1 = 2 }.":    api.OK,
		"{ x : a }.":                        depend.ErrCond,
		"{ x : not a }.":                    depend.ErrCond,
		"{ x : b }.":                        depend.ErrCond,
		"{ x : d, not c }.":                 depend.ErrCond,
		"{ x : d ; y : e, d ; z : d, b }.":  depend.ErrCond,
		"{ x : d } :- a, not b.":            api.OK,
		"{ x : x }.":                        depend.ErrCond,
		"{ x : y ; y }.":                    depend.ErrCond,
		"1 { x : c } 1 :- d : d.":           depend.ErrCond,
		":- x : d.":                         api.OK,
		":- a : d, not e.":                  api.OK,
		":- not c : d; b.":                  api.OK,
		":- x : a.":                         depend.ErrCond,
		":- x : not a.":                     depend.ErrCond,
		":- x : d; x : d, b.":               depend.ErrCond,
		"x :- y : c.":                       depend.ErrCond,
		"{ x } :- y : a.":                   depend.ErrCond,
		"x | y :- d : b.":                   depend.ErrCond,
		":~ d : a. [1@2]":                   depend.ErrCond,
		":- 1 = 2 : a.":                     depend.ErrCond,
		"x :- x : d.":                       api.OK,
		"x :- d : x.":                       depend.ErrCond,
		":- #sum { 1 : a, not b ; c } > 0.": api.OK,
		":~ a. [1@2]":                       api.OK,
		"{ x : d(1) }. { d(1,2) }.":         api.OK,
		"{ x : d(1) }. { d(1) }.":           depend.ErrCond,
		"{ x : y }. y :- #count { 1 } > 0.": depend.ErrCond,
		"{ x : y }. y | z.":                 depend.ErrCond,
	} {
		checkConds(t, src, programOf(t, rules+src), want)
		checkConds(t, src+" first", programOf(t, src+rules), want)
	}
}
