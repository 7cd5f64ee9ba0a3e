package derive_test

import (
	"testing"

	"ostler/api"
	"ostler/depend"
	"ostler/derive"
	"ostler/finite"
	"ostler/join"
)

// P13.2

// Rules with one error each
const (
	noDomain   = "{ ch }. { a1 : ch }."
	noRanks    = "inf(0). inf(X+1) :- inf(X)."
	isUnsafe   = ":- not un(X)."
	tooDeep    = "deep(F11:1G11:). deeper(f(X)) :- deep(X)."
	tooMany    = "many(1..1001)."
	tooMany2   = "many(1..50,1..50)."
	twoStepped = "a0. z1 :- a0. z2 :- z1."
)

func TestRefusedPrograms(t *testing.T) {
	invalid := api.Rule{Kind: api.RuleDisj, Heads: []api.Head{{}}}
	for _, c := range []struct {
		src  string
		want api.Errno
	}{
		{noDomain, depend.ErrCond}, {noRanks, finite.ErrRank}, {isUnsafe, join.ErrUnsafe}, {tooDeep, api.ErrLong}, {tooMany, api.ErrMany}, {tooMany2, api.ErrMany}, {twoStepped, api.OK},
		{noDomain + noRanks + isUnsafe + tooDeep + tooMany, depend.ErrCond},
		{tooMany + tooDeep + isUnsafe + noRanks + noDomain, depend.ErrCond},
		{tooMany + tooDeep + isUnsafe + noRanks, finite.ErrRank},
		{noRanks + isUnsafe + tooDeep + tooMany, finite.ErrRank},
		{tooDeep + tooMany + isUnsafe, join.ErrUnsafe},
		{isUnsafe + tooMany + tooDeep, join.ErrUnsafe},
		{"a :- b : ch. { ch }.", depend.ErrCond}, {"a :- #count { 1 : ch } > 1. { ch }.", api.OK},
		{"a(X).", finite.ErrRank}, {"a(X) :- not b(X).", finite.ErrRank}, {"{ a(X) } :- b.", finite.ErrRank}, {"{ a : b(X), not c(Y) }.", join.ErrUnsafe}, {"X { a }.", join.ErrUnsafe}, {":~. [X]", join.ErrUnsafe}, {":- #count { X } > 1.", join.ErrUnsafe}, {"a :- b : not c(X).", join.ErrUnsafe},
	} {
		p := programOf(t, c.src)
		if c.want != api.OK {
			checkRefused(t, c.src, p, c.want)
		} else if _, _, e := derive.Derive(p); e != api.OK {
			t.Errorf("%s: error %d", c.src, e)
		}
		p.Rules = append(p.Rules, invalid)
		checkRefused(t, c.src, p, api.ErrArg)
	}
}

func TestTooDeep(t *testing.T) {
	for _, src := range []string{
		"d(f(1)). p(F11:XG11:) :- d(X).", "d(f(1)). { p(F11:XG11:) } :- d(X).", "d(f(1)). { p(F11:XG11:) : d(X) }.", "d(f(1)). p(F11:XG11:) | q :- d(X).", "d(f(1)). q | p(F11:XG11:) :- d(X).", "d(f(1)). { q; p(F11:XG11:) : d(X) }.",
		"d(F11:1G11:). p :- d(X), Y = f(X).", "d(F11:1G11:). p(Y) :- d(X), Y = f(X).", "d(F11:1G11:). p :- d(X), f(X) < 1.", "d(F11:1G11:). p :- q : Y = f(X); d(X).", "d(F11:1G11:). { p : Y = f(X), d(X) }.", "d(F11:1G11:). p :- q(1..f(X)) : d(X).", "d(F11:1G11:). { p } 1..f(X) :- d(X).", "d(F11:1G11:). p :- #count { 1 } > 1..f(X), d(X).",
		"d(F11:1G11:,F11:2G11:). p(f(X),Y) :- d(X,Y).",
	} {
		checkError(t, src, api.ErrLong)
	}
	for src, certain := range map[string]string{
		"d(f(1)). p(F11:XG11:) :- d(X), not d(X).":                            "d(f(1))",
		"d(f(1)). p(F11:XG11:) :- d(X), e(X).":                                "d(f(1))",
		"d(f(1)). p(F11:XG11:) :- d(X), e : d(X).":                            "d(f(1))",
		"d(f(1)). p(F10:XG10:) :- d(X).":                                      "d(f(1)) p(F11:1G11:)",
		"d(f(1)). p :- d(X), not q(F11:XG11:).":                               "d(f(1)) p",
		"d(f(1)). :- d(X), Y = F11:XG11:.":                                    "d(f(1))",
		"d(f(1)). :~ d(X). [F11:XG11:]":                                       "d(f(1))",
		"d(f(1)). e(F11:XG11:) :- d(X), #count { 1 : d(X) } > 1, not d(X).":   "d(f(1))",
		"d(f(1)). :- #count { Y : Y = F11:XG11: } > 1, d(X).":                 "d(f(1))",
		"d(f(1)). p :- #count { Y : Y = F11:XG11: } = Z, d(X), Z = 0, Z = 1.": "d(f(1))",
		"d(F11:1G11:). { p(f(X)) : d(X), not d(X) }.":                         "d(F11:1G11:)",
	} {
		checkDerive(t, src, certain, "")
	}
}

func TestTooMany(t *testing.T) {
	for _, src := range []string{
		"p(1..1001).", "p(1..1000,1..3).", "p(1..200,1..200).", "p(1..1000). q(1..1000). r.", "p(1..1000). q(X) :- p(X). { r(X) : p(X) }.", "p(1..1000). { q(X,1..2) : p(X) }.", "p(1..1000). q(X) | r(X) :- p(X).", "p(1..1000,1..2). { q }.",
		"p :- X = 1..200, Y = 1..101.", "p :- q : X = 1..200, Y = 1..101.", "{ p : X = 1..200, Y = 1..101 }.", "p :- not q(1..1001).", "p :- X < 2 : X = 1..1001.", "1..1001 { p }.", "{ p } 1..1001.", "p :- #count { 1 } > 1..1001.", "p(1..1000). a(1..950). n(0). n(X) :- n(Y), p(X), X = Y+1.",
		// The heads of a choice are instantiated in each component, and the conditional literals of a rule also if nothing new can follow.
		"{ a; z : X = 1..1001 }.", "a. a :- b : X = 1..1001.",
	} {
		checkError(t, src, api.ErrMany)
	}
	for src, certain := range map[string]string{
		"p(1..1000,1..2).":                                                "p(1..1000,1..2)",
		"p(1..1000). q(X) :- p(X). p(1..1000).":                           "p(1..1000) q(1..1000)",
		"p :- X = 1..200, Y = 1..100.":                                    "p",
		"p(1..1000). n(0). n(X) :- n(Y), p(X), X = Y+1, X < 100.":         "p(1..1000) n(0..99)",
		":- p(1..1001). :- X = 1..1000, Y = 1..1000. :~ X = 1..1001. [1]": "",
		"p :- #count { X : X = 1..1001 } > 1, not p2. p2.":                "p2",
	} {
		checkDerive(t, src, certain, "")
	}
	checkDerive(t, "p(1..1000). { q(X) : p(X) }.", "p(1..1000)", "q(1..1000)")
}

// TestPrecedenceInARound checks that ErrLong precedes ErrMany within a round, and that earlier rounds and components precede later ones.
func TestPrecedenceInARound(t *testing.T) {
	deep := "d(f(1)). "
	for _, c := range []struct {
		src  string
		want api.Errno
	}{
		// One component, one round
		{deep + "p :- X = 1..1001. p :- d(X), Y = F11:XG11:.", api.ErrLong},
		{deep + "p :- d(X), Y = F11:XG11:. p :- X = 1..1001.", api.ErrLong},
		{deep + "p(1..1001). p(F11:XG11:) :- d(X).", api.ErrLong},
		{deep + "p(F11:XG11:) :- d(X). p(1..1001).", api.ErrLong},
		{deep + "p(1..1000,1..3) | p(F11:XG11:) :- d(X).", api.ErrLong},
		{deep + "p(1..1000,1..2) | p(F11:XG11:) :- d(X).", api.ErrLong},
		{deep + "p(1..1000,1..2). p(F11:XG11:,1) :- d(X).", api.ErrLong},
		{deep + "p(1..100,1..100). p(F11:XG11:,1) :- d(X).", api.ErrLong},
		{deep + "{ p(1..1001); p(F11:XG11:) : d(X) }.", api.ErrLong},
		{deep + "{ p : X = 1..1001; q : Y = F11:XG11:, d(X) }.", api.ErrLong},
		// After an error, a call counts as one without results.
		{deep + "p :- q : X = 1..1001; q : Y = F11:XG11:, d(X).", api.ErrLong},
		{deep + "p :- q : Y = F11:XG11:, d(X); q : X = 1..1001.", api.ErrLong},
		{deep + "p :- q : X = 1..1001; q : d(1); q : Y = F11:XG11:, d(X).", api.ErrLong},
		{deep + "p :- q : X = 1..1001; q : d(f(1)); q : Y = F11:XG11:, d(X).", api.ErrMany},
		{deep + "p(F11:XG11:) :- d(X), q : Y = 1..1001.", api.ErrLong},
		{deep + "{ p : Y = F11:XG11: } :- d(X), q : Y = 1..1001.", api.ErrLong},
		{deep + "{ p : Y = F11:XG11: } :- d(X), q : Y = 1..1001; r : d(X).", api.ErrMany},
		// One component, different rounds
		{deep + "p(1..1001). p(2) :- p(1), d(X), Y = F11:XG11:.", api.ErrMany},
		{deep + "e(0,1,1001). p(0). p(Y..Z) :- p(X), e(X,Y,Z). p(2) :- p(1), d(X), Y = F11:XG11:. p(1) :- p(0).", api.ErrMany},
		{deep + "e(1,1,1001). p(0). p(Y..Z) :- p(X), e(X,Y,Z). p(2) :- p(1), d(X), Y = F11:XG11:. p(1) :- p(0).", api.ErrLong},
		{deep + "e(1,1,1001). p(0). p(Y..Z) :- p(X), e(X,Y,Z). p(2) :- p(0), d(X), Y = F11:XG11:. p(1) :- p(0).", api.ErrLong},
		{deep + "p(0). p(1..1000,1..3) :- p(0). p(2) :- p(1), d(X), Y = F11:XG11:. p(1) :- p(0). p(1,2) :- p(3). p(3) :- p(1,2).", api.ErrMany},
		// Different components
		{deep + "p(F11:XG11:) :- d(X). q(1..1001).", api.ErrLong},
		{deep + "q(F11:XG11:) :- d(X). p(1..1001).", api.ErrMany},
		{deep + "p(F11:XG11:) :- d(X), q(X). q(1..1001).", api.ErrMany},
		{deep + "q(F11:XG11:) :- d(X), not p(1). p(1..1000,1..3).", api.ErrMany},
		{deep + "{ a; z : X = 1..1001 }. c(F11:XG11:) :- d(X).", api.ErrMany},
		{deep + "{ a; z : Y = F11:XG11:, d(X) } :- d(f(1)). c(1..1001).", api.ErrMany},
		{deep + "{ e; z : Y = F11:XG11:, d(X) } :- d(f(1)). f(1..1001).", api.ErrLong},
		{deep + "{ e; z(F11:XG11:) : d(X) }. f(1..1001).", api.ErrMany},
		{deep + "{ e; z(F11:XG11:) : d(X) }. zz(1..1001).", api.ErrLong},
	} {
		checkError(t, c.src, c.want)
	}
}

// TestCallsThatAreNotMade has rules whose conditional literals or heads would be errors, but are not looked at.
func TestCallsThatAreNotMade(t *testing.T) {
	for src, certain := range map[string]string{
		"b. p :- not b, q : X = 1..1001.":          "b",
		"b. p :- r : b; q : X = 1..1001.":          "b",
		"b. p :- not b : b; q : X = 1..1001.":      "b",
		"b. p :- 2 < 1 : b; q : X = 1..1001.":      "b",
		"b. { p : X = 1..1001 } :- not b.":         "b",
		"b. { p : X = 1..1001 } :- r : b.":         "b",
		"b. { p : X = 1..1001 } :- c.":             "b",
		"b. p :- c, q : X = 1..1001.":              "b",
		"b. :- q : X = 1..1001.":                   "b",
		":~ q : X = 1..1001. [1]":                  "",
		"b. d(f(1)). p(F11:XG11:) :- d(X), r : b.": "b d(f(1))",
	} {
		checkDerive(t, src, certain, "")
	}
	for _, src := range []string{
		"b. p :- q : X = 1..1001; r : b.", "b. p :- q : X = 1..1001; not b : b.", "p :- not p, q : X = 1..1001.", "{ b }. p :- not b, q : X = 1..1001.", "b. p :- b : b; q : X = 1..1001.", "p :- p : 1 < 2; q : X = 1..1001. p.", "p :- not p : 1 < 2; q : X = 1..1001. p.", "b. { p : X = 1..1001 } :- not p.",
	} {
		checkError(t, src, api.ErrMany)
	}
}
