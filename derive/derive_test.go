package derive_test

import (
	"slices"
	"strconv"
	"strings"
	"testing"

	"ostler/api"
	"ostler/derive"
	"ostler/store"
)

// P13.3

func TestExample(t *testing.T) {
	checkDerive(t, "e(1..3). n(X+1) :- e(X). { s(X) : e(X) }. t(X) :- s(X), not u(X). u(X) :- s(X), not t(X). v(X) :- e(X), not n(X). w :- e(X) : n(X).",
		"e(1..3) n(2..4) v(1)", "s(1..3) t(1..3) u(1..3)")
}

func TestDerive(t *testing.T) {
	for _, c := range []struct{ src, certain, others string }{
		{"", "", ""},
		{":- a. :~ b. [1]", "", ""},
		{"a.", "a", ""},
		{"a :- b.", "", ""},
		{"a :- a. b :- c. c :- b.", "", ""},
		{"a(1..3,f(b)).", "a(1..3,f(b))", ""},
		{"a(1..2,3..4). b(X+Y) :- a(X,Y).", "a(1..2,3..4) b(4..6)", ""},
		{"a(1/0). b(X/Y) :- c(X,Y). c(3,0..1).", "c(3,0..1) b(3)", ""},
		{"a(3..1). b(a+1).", "", ""},
		{"p(1..3). q(X) :- p(X), X != 2.", "p(1..3) q(1) q(3)", ""},
		{"p(1..3). q(Y) :- p(X), Y = X..X+1.", "p(1..3) q(1..4)", ""},
		{"p(1..9). q(X) :- p(X), p(X+5).", "p(1..9) q(1..4)", ""},
		{"p(1..2). q(_) :- p(_).", "p(1..2) q(1..2)", ""},
		{"p(1..3). q(H_1,X+1) :- p(H_1), p(X), X < 2.", "p(1..3) q(1..3,2)", ""},
		{"a. a. a :- a.", "a", ""},
		{"p(1). p(1,1). p :- p(1,1).", "p p(1) p(1,1)", ""},
		// Recursion
		{"e(1,2). e(2,3). e(3,1). e(4,4). t(X,Y) :- e(X,Y). t(X,Z) :- t(X,Y), e(Y,Z).", "e(1,2) e(2,3) e(3,1) e(4,4) t(1..3,1..3) t(4,4)", ""},
		{"n(0). n(Y) :- n(X), Y = X+1, d(Y). d(1..9). even(0). odd(Y) :- even(X), d(Y), Y = X+1. even(Y) :- odd(X), d(Y), Y = X+1.", "d(1..9) n(0..9) even(0) even(2) even(4) even(6) even(8) odd(1) odd(3) odd(5) odd(7) odd(9)", ""},
		// Negation
		{"a :- not b.", "a", ""},
		{"a :- not b. b.", "b", ""},
		{"a :- not a.", "", "a"},
		{"a :- not b. b :- not a.", "", "a b"},
		{"a :- not b. b :- not a. c :- not a. d :- not c. f :- not d. ", "", "a b c d f"},
		{"a :- not b. b :- c, not a. c :- a.", "", "a b c"},
		{"z. a :- not z. b :- not a. c :- not b. d :- not c.", "z b d", ""},
		{"d(1..3). q(2). p(X) :- d(X), not q(X).", "d(1..3) q(2) p(1) p(3)", ""},
		{"d(1..3). { q(2) }. p(X) :- d(X), not q(X).", "d(1..3) p(1) p(3)", "q(2) p(2)"},
		{"d(1..3). p(X) :- d(X), not q(X..X+1). q(2..3).", "d(1..3) q(2..3) p(1) p(3)", ""},
		{"d(1..3). p(X) :- d(X), not d(X+1).", "d(1..3) p(3)", ""},
		{"d(1..3). p(X) :- d(X), not d(1/(X-1)).", "d(1..3) p(3)", ""},
		{"a. b :- a, not b. b.", "a b", ""},
		{"a. a :- not a.", "a", ""},
		{"a :- not b. b :- not a. a. c :- not a. d :- not b.", "a", "b d"},
		{"w(1). a(1) :- not w(2). b(X) :- w(X), not w(X).", "w(1) a(1)", ""},
		// Disjunctions
		{"a | b.", "", "a b"},
		{"a | b. a. c :- a. d :- b.", "a c", "b d"},
		{"a | a.", "", "a"},
		{"p(X) | q(X+1) :- d(X). d(1..2).", "d(1..2)", "p(1..2) q(2..3)"},
		{"p(X,1..2) | q(Y..2) :- d(X,Y). d(1,2). d(2,3).", "d(1,2) d(2,3)", "p(1,1..2) q(2)"},
		{"a | b :- not c. c.", "c", ""},
		// Choices
		{"{ a }. b :- a. c :- not a.", "", "a b c"},
		{"{ a; b } :- c. c.", "c", "a b"},
		{"{ a }. a.", "a", ""},
		{"1 { a; b } 1 :- c.", "", ""},
		{"d(1..3). { p(X,Y) : d(Y), Y > X, not d(Y+1) } :- d(X).", "d(1..3)", "p(1..2,3)"},
		{"d(1..3). { p(X..Y) : d(Y) } :- d(X), X > 1.", "d(1..3)", "p(2..3)"},
		{"d(1..2). X { p(X) } X+1 :- d(X).", "d(1..2)", "p(1..2)"},
		{"d(1..2). 1/0 { p(X) } :- d(X).", "d(1..2)", ""},
		{"d(1..2). { p(X) } 1/(X-1) :- d(X).", "d(1..2)", "p(2)"},
		{"d(1..2). { p(1/(X-1)); q(X) } :- d(X).", "d(1..2)", "p(1) q(1..2)"},
		{"{ a; b }. { b; c } :- a. d :- b, c.", "", "a b c d"},
		{"d(1..2). { a(X) : d(X) }. b :- a(1). b :- a(2). c :- a(3). { d2(X) : d(X), not c2(X) }. c2(1).", "d(1..2) c2(1)", "a(1..2) b d2(2)"},
		{"{ q(1..2) }. p(X) :- q(X). { r(X) } :- p(X). q(2).", "q(2) p(2)", "q(1) p(1) r(1..2)"},
		// Heads of a choice in several components, in both orders
		{"{ a; z :  n }. n. m :- a. z :- m.", "n", "a m z"},
		{"{ z; a } :- m. m :- not n. b :- z. b :- a. n :- not m.", "", "m n z a b"},
		{"d(1..2). { p(X); q(X+1) } :- d(X). r(X) :- p(X), q(X).", "d(1..2)", "p(1..2) q(2..3) r(2)"},
		{"p(1). { p(X+1); q(X) } :- p(X), e(X). e(1..3). r(X) :- q(X), not p(X).", "p(1) e(1..3)", "p(2..4) q(1..3) r(2..3)"},
		// Aggregates are not looked into.
		{"a :- #count { 1 : b } > 5. c :- a.", "", "a c"},
		{"{ b }. d(1..2). a(X) :- d(X), not #sum { Y : d(Y), b } = X. a(1).", "d(1..2) a(1)", "b a(2)"},
		{"a :- #count { 1 } > 1/0. b :- #count { 1 } > 3..4. c :- #count { 1 } > 4..3.", "", "b"},
		{"a :- not b, #count { 1 : a } > 1. b.", "b", ""},
		{"d(1..2). p(X) :- #count { Y : d(Y) } = X, d(X), X > 1. p(X) | q :- #count { Y : d(Y) } = X, d(X).", "d(1..2)", "p(1..2) q"},
		// Weak constraints and constraints derive nothing.
		{"a. :~ a. [1] :- not a.", "a", ""},
	} {
		checkDerive(t, c.src, c.certain, c.others)
	}
}

func TestConditionalLiterals(t *testing.T) {
	for _, c := range []struct{ src, certain, others string }{
		{"a :- b : c.", "a", ""},
		{"a :- b : c. c.", "c", ""},
		{"a :- b : c. c. b.", "a b c", ""},
		{"a :- b : c. c. { b }.", "c", "a b"},
		{"a :- not b : c. c. { b }.", "c", "a b"},
		{"a :- not b : c. c. b.", "b c", ""},
		{"a :- not b : c. c.", "a c", ""},
		{"a :- not b : not c.", "a", ""},
		{"a :- b : not c. c.", "a c", ""},
		{"a :- b : not c.", "", ""},
		{"a :- b : 1 < 2.", "", ""},
		{"a :- b : 2 < 1.", "a", ""},
		{"d(1..3). a :- X < 4 : d(X). b :- X < 3 : d(X). c :- X < 1..2 : d(X), X < 2. e :- X < 2..3 : d(X), X < 2.", "d(1..3) a e", ""},
		{"d(1..3). q(1..2). a :- q(X) : d(X). b :- q(X) : d(X), X < 3. c(Y) :- d(Y), q(X) : d(X), X < Y.", "d(1..3) q(1..2) b c(1..3)", ""},
		{"d(1..4). q(1..2). { q(3) }. c(Y) :- d(Y), q(X) : d(X), X < Y. e(Y) :- d(Y), q(X) : d(X), X <= Y.", "d(1..4) q(1..2) c(1..3) e(1..2)", "q(3) c(4) e(3)"},
		{"d(1..4). q(2). { q(3) }. c(Y) :- d(Y), not q(X) : d(X), X < Y.", "d(1..4) q(2) c(1..2)", "q(3)"},
		{"d(1..4). { q(3) }. c(Y) :- d(Y), not q(X) : d(X), X < Y.", "d(1..4) c(1..3)", "q(3) c(4)"},
		{"d(1..2). a(X) :- d(X), q(X+1) : d(X+1). q(2).", "d(1..2) q(2) a(1..2)", ""},
		{"d(1..2). a(X) :- d(X), q(X..X+1) : d(X). q(2..3).", "d(1..2) q(2..3) a(2)", ""},
		{"d(1..2). a(X) :- d(X), q(1/0) : d(X). b :- X < 1/0 : d(X).", "d(1..2) a(1..2) b", ""},
		{"d(1). e(f(1)). a(X) :- e(X), q(F11:XG11:) : d(1). b(X) :- e(X), not q(F11:XG11:) : d(1).", "d(1) e(f(1)) b(f(1))", ""},
		{"a :- b : c; d : e; not f. c. e. b. { d }.", "b c e", "a d"},
		{"a :- b : c, not d. c. d. f :- b : c, not g.", "a c d", ""},
		// The own component
		{"d(1..4). p(X) :- d(X), p(Y) : d(Y), Y < X.", "d(1..4) p(1..4)", ""},
		{"d(1..4). p(X) :- d(X), p(Y) : d(Y), Y > X+1.", "d(1..4) p(1..4)", ""},
		{"d(1..2). p(X) :- d(X), p(Y) : d(Y).", "d(1..2)", ""},
		{"d(1..4). p(X) :- d(X), not p(Y) : d(Y), Y < X.", "d(1..4) p(1)", "p(2..4)"},
		{"d(1..4). p(X) :- d(X), not p(Y) : d(Y), Y < X. p(2).", "d(1..4) p(1..2)", "p(3..4)"},
		{"d(1..3). { p(X) } :- d(X), p(Y) : d(Y), Y < X. q :- p(3).", "d(1..3)", "p(1..3) q"},
		{"d(1..3). { p(1) }. p(X) :- d(X), X > 1, p(Y) : d(Y), Y < X.", "d(1..3)", "p(1..3)"},
		{"d(1..2). p(X) | q(X) :- d(X), q(Y) : d(Y), Y > X.", "d(1..2)", "p(1..2) q(1..2)"},
	} {
		checkDerive(t, c.src, c.certain, c.others)
	}
}

// TestHeadConditionsOfOtherRules checks that the conditions of the heads of a disjunction do not matter for what it derives.
func TestHeadConditionsOfOtherRules(t *testing.T) {
	p := programOf(t, "{ a : b }. c :- a.")
	p.Rules[0].Kind = api.RuleDisj
	possible, certain, e := derive.Derive(p)
	if e != api.OK || storeText(possible) != "a c" || storeText(certain) != "a c" {
		t.Error(storeText(possible), storeText(certain), e)
	}
}

// TestHeadsOfWeakConstraints checks that a RuleWeak derives nothing, even if it has heads.
func TestHeadsOfWeakConstraints(t *testing.T) {
	for _, a := range []api.Atom{atom("a"), atom("w", number(1)), atom("w", number(3))} {
		p := programOf(t, ":~. [1@2] b :- a. b :- w(1..3).")
		p.Rules[0].Heads = []api.Head{{Atom: a}}
		possible, certain, e := derive.Derive(p)
		if e != api.OK || possible.Len() > 0 || certain.Len() > 0 {
			t.Error(storeText(possible), storeText(certain), e)
		}
	}
}

// TestCapture checks that a variable with the name of one that Flat introduces for the premises is that one.
func TestCapture(t *testing.T) {
	checkDerive(t, "d(1..3). q(1..2). a(X) :- d(X+0), d(X), q(H_1) : d(1).", "d(1..3) q(1..2) a(1..2)", "")
	checkDerive(t, "d(1..3). { q(H_1) : d(H_1) } :- d(2+1).", "d(1..3)", "q(3)")
}

// TestLongDerivations derives atoms that need many rounds, or many instances.
func TestLongDerivations(t *testing.T) {
	checkDerive(t, "d(1..300). p(1). p(X+1) :- p(X), d(X).", "d(1..300) p(1..301)", "")
	checkDerive(t, "d(1..300). p(1). { p(X+1) : d(X) } :- p(X).", "d(1..300) p(1)", "p(2..301)")
	checkDerive(t, "d(1..200). p(X) :- d(X), p(Y) : Y = X-1, d(Y).", "d(1..200) p(1..200)", "")
	checkDerive(t, "d(1..140). p(X+Y) :- d(X), d(Y), d(Z) : d(Z).", "d(1..140) p(2..280)", "")
	checkDerive(t, "a(1..1000). b(X) :- a(X), not c(X).", "a(1..1000) b(1..1000)", "")
	var rules, atoms []string
	for i := range 400 {
		rules = append(rules, "p"+strconv.Itoa(i)+" :- p"+strconv.Itoa(i+1)+".")
		atoms = append(atoms, "p"+strconv.Itoa(i))
	}
	rules[399] = "p399."
	checkDerive(t, strings.Join(rules, " "), strings.Join(atoms, " "), "")
	slices.Reverse(rules)
	checkDerive(t, strings.Join(rules, " "), strings.Join(atoms, " "), "")
}

// TestStoresAreSeparate checks that the results do not influence each other or later results.
func TestStoresAreSeparate(t *testing.T) {
	p := programOf(t, "a. { b }.")
	possible, certain, _ := derive.Derive(p)
	for _, s := range []*store.Store{possible, certain} {
		if _, e := s.Add(atom("new")); e != api.OK {
			t.Error(e)
		}
	}
	if storeText(possible) != "a b new" || storeText(certain) != "a new" {
		t.Error(storeText(possible), storeText(certain))
	}
	if possible, certain, _ = derive.Derive(p); storeText(possible) != "a b" || storeText(certain) != "a" {
		t.Error(storeText(possible), storeText(certain))
	}
}
