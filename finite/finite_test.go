package finite_test

import (
	"testing"

	"ostler/api"
	"ostler/finite"
)

func TestExampleOfTheChapter(t *testing.T) {
	const rules = "n(0). n(1). p(f(X)) :- n(X). q(X+Y) :- p(f(X)), p(f(Y)). "
	if got := placesText(finite.Places(programOf(t, rules))); got != "n(0) p(0) q(0)" {
		t.Error("Places:", got)
	}
	checkSource(t, rules, "n(0) p(1) q(1)")
	checkSource(t, rules+"n(X) :- q(X).", none)
	checkSource(t, rules+"n(Y) :- q(X), n(Y), Y = X+1.", "n(0) p(1) q(1)")
}

// P10.1

func TestPlaces(t *testing.T) {
	for src, want := range map[string]string{
		"":                              "",
		"a. b :- not c.":                "",
		"a(1).":                         "a(0)",
		"b(X,Y) :- a(X), b(Y,X), a(Y).": "a(0) b(0,1)",
		"a(1,2,3). a. a(4). b. a(5,6).": "a(0) a(0,1) a(0,1,2)",
		"b(1) | ab(2) | a(3).":          "a(0) ab(0) b(0)",
		"{ b(1) : c(2), not d(3,4) ; a(5) : e }.":                        "a(0) b(0) c(0) d(0,1)",
		":- not b(1), X < 2, 1 = a.":                                     "b(0)",
		":- b(1) : not c(2), d(3); a(4) : b(5).":                         "a(0) b(0) c(0) d(0)",
		":- #sum { f(1) : b(2), not a(3) ; c(5) : 1 = 2, g(4) } > h(6).": "a(0) b(0) g(0)",
		"e(1) { a(2) } f(3) :- b(4). :~ c(5). [d(6)@g(7),h(8)]":          "a(0) b(0) c(0)",
		"#show a/1. #const b = c(1). :- d(f(e(2))).":                     "d(0)",
	} {
		if got := placesText(finite.Places(programOf(t, src))); got != want {
			t.Errorf("Places of %s: %s, want %s", src, got, want)
		}
	}
}

// P10.2

func TestFits(t *testing.T) {
	for _, c := range []struct {
		src   string
		ranks []int
		want  bool
	}{
		{"", nil, true},
		{"", []int{0}, false},
		{"a. b :- a.", nil, true},
		{"p(1).", []int{0}, true},
		{"p(1).", []int{finite.MaxRank}, true},
		{"p(1).", []int{finite.MaxRank + 1}, false},
		{"p(1).", []int{-1}, false},
		{"p(1).", nil, false},
		{"p(1).", []int{0, 0}, false},
		{"p(1,2).", []int{0}, false},
		{"p(1,2).", []int{0, -1}, false},
		{"p(1,2).", []int{finite.MaxRank + 1, 0}, false},
		{":- p(X).", []int{7}, true},
		{"p(X) :- q(X).", []int{0, 0}, true},
		{"p(X) :- q(X).", []int{1, 2}, false},
		{"p(X) :- q(X).", []int{2, 1}, true},
		{"p(f(X)) :- q(X).", []int{finite.MaxRank, finite.MaxRank - 1}, true},
		{"p(f(X)) :- q(X).", []int{finite.MaxRank, finite.MaxRank}, false},
		{"p(X) :- q(f(X)).", []int{finite.MaxRank - 1, finite.MaxRank}, true},
		{"p(X) :- q(f(f(X))).", []int{0, 3}, false},
		{"p(X) :- q(f(f(X))).", []int{0, 2}, true},
		{"p(X) :- q(f(f(X))).", []int{0, 1}, true},
		{"p(f(X)) :- q(f(f(f(X)))).", []int{0, 2}, true},
		{"p(f(X)) :- q(f(f(f(X)))).", []int{0, 3}, false},
		{"p(X,f(X)) :- q(X).", []int{3, 4, 3}, true},
		{"p(X,f(X)) :- q(X).", []int{3, 3, 3}, false},
		{"p(X,f(X)) :- q(X).", []int{2, 4, 3}, false},
		{"p(X) :- q(X), q(f(X)).", []int{1, 2}, true},
		{"p(X) :- q(X), r(X).", []int{1, 1, 5}, true},
		{"p(X) :- q(X), r(X).", []int{1, 5, 1}, true},
		{"p(X) :- q(X), r(X).", []int{1, 2, 2}, false},
		{"p(f(X)) :- q(X), p(X).", []int{2, 1}, true},
		{"p(f(X)) :- q(X), p(X).", []int{1, 1}, false},
		{"p(f(X)) :- p(X).", []int{1}, false},
		{"p(f(X)) :- p(X).", []int{finite.MaxRank}, false},
		{"p(X) :- not q(X).", []int{9, 0}, false},
		{"p(X) :- not q(X).", []int{finite.MaxRank, finite.MaxRank}, false},
		{"p(X) | p(f(X)) :- q(X).", []int{1, 0}, true},
		{"p(X) | p(f(X)) :- q(X).", []int{0, 0}, false},
		{"p(X+Y) :- q(X), r(Y).", []int{4, 2, 3}, true},
		{"p(X+Y) :- q(X), r(Y).", []int{3, 2, 3}, false},
		{"p(Y) :- q(X), Y = f(X).", []int{4, 3}, true},
		{"p(Y) :- q(X), Y = f(X).", []int{3, 3}, false},
		{"p(f(X)) :- X = f(f(1)).", []int{0}, true},
	} {
		checkFits(t, c.src, programOf(t, c.src), c.ranks, c.want)
	}
}

// P10.3

func TestRanksOfOccurrences(t *testing.T) {
	for src, want := range map[string]string{
		"":                                                   "",
		"a. b :- not a.":                                     "",
		"p(1,f(f(2)),1+2).":                                  "p(0,0,0)",
		"p(X) :- q(X).":                                      "p(0) q(0)",
		"p(f(X)) :- q(X).":                                   "p(1) q(0)",
		"p(f(f(X),X)) :- q(X).":                              "p(2) q(0)",
		"p(f(X,f(X))) :- q(X).":                              "p(2) q(0)",
		"p(f(1,g(X),2)) :- q(X).":                            "p(2) q(0)",
		"p(X+1) :- q(X).":                                    "p(1) q(0)",
		"p(-X) :- q(X).":                                     "p(1) q(0)",
		"p(1*f(X-2)) :- q(X).":                               "p(3) q(0)",
		"p(X..9) :- q(X).":                                   "p(0) q(0)",
		"p(f(1..X)) :- q(X).":                                "p(1) q(0)",
		"p((X+1)..f(X)) :- q(X).":                            "p(1) q(0)",
		"p(X) :- q(f(X)).":                                   "p(0) q(0)",
		"p(f(X)) :- q(f(X)).":                                "p(0) q(0)",
		"p(f(f(X))) :- q(f(X)).":                             "p(1) q(0)",
		"p(f(f(X))) :- q(f(X),X).":                           "p(1) q(0,0)",
		"p(f(f(X))) :- q(f(X,f(f(X)))).":                     "p(0) q(0)",
		"p(f(X)) :- q(1,X,f(X+1)).":                          "p(1) q(0,0,0)",
		"p(X) :- q(f(X)). q(f(f(X))) :- r(X).":               "p(1) q(2) r(0)",
		"p(X,Y) :- q(Y,X). q(f(X),X) :- r(X).":               "p(0,1) q(1,0) r(0)",
		"p(X,f(X),f(f(X))) :- q(X).":                         "p(0,1,2) q(0)",
		"p(f(X,f(Y))) :- q(X), r(Y). r(f(X)) :- q(X).":       "p(3) q(0) r(1)",
		"p(f(f(X),f(Y))) :- q(X), r(Y). q(f(f(X))) :- r(X).": "p(4) q(2) r(0)",
		"p(1,2,3). p(f(X)) :- p(X,Y). p(Y,f(X)) :- p(Y,X,f(1)).": "p(1) p(0,1) p(0,0,0)",
		"p(f(X)) :- q(X). r(Y) :- p(Y).":                         "p(1) q(0) r(1)",
		"p(f(X)) :- q(Y), q(X), r(X).":                           "p(1) q(0) r(0)",
		"p(_) :- q(_).":                                          "p(0) q(0)",
	} {
		checkSource(t, src, want)
	}
}

func TestLeastBounds(t *testing.T) {
	const high = "h(f(f(f(X)))) :- z(X). l(f(X)) :- z(X). "
	for src, want := range map[string]string{
		"":                                        "h(3) l(1) z(0)",
		"p(X) :- h(X).":                           "h(3) l(1) p(3) z(0)",
		"p(X) :- h(X), l(X).":                     "h(3) l(1) p(1) z(0)",
		"p(X) :- l(X), h(X).":                     "h(3) l(1) p(1) z(0)",
		"p(X) :- l(X), h(f(X)).":                  "h(3) l(1) p(1) z(0)",
		"p(X) :- l(X), h(f(f(f(X)))).":            "h(3) l(1) p(0) z(0)",
		"p(X) :- h(X), not l(X).":                 "h(3) l(1) p(3) z(0)",
		"p(X) :- h(X), l(1..X).":                  "h(3) l(1) p(3) z(0)",
		"p(X) :- h(X), l(X+0).":                   "h(3) l(1) p(3) z(0)",
		"p(X) :- h(X), l(f(X)+0).":                "h(3) l(1) p(3) z(0)",
		"p(X) :- h(X), l(f(X-1)).":                "h(3) l(1) p(3) z(0)",
		"p(X) :- h(X), l(Y).":                     "h(3) l(1) p(3) z(0)",
		"p(X) :- h(X), l(Y) : z(X).":              "h(3) l(1) p(3) z(0)",
		"p(X) :- h(X), l(X) : l(X).":              "h(3) l(1) p(3) z(0)",
		"p(X) :- h(X), #count { X : l(X) } > 0.":  "h(3) l(1) p(3) z(0)",
		"p(X) :- h(X), X < 3.":                    "h(3) l(1) p(3) z(0)",
		"p(X) :- h(X), X = 1..3.":                 "h(3) l(1) p(0) z(0)",
		"p(X) :- h(X), X = Y, l(Y).":              "h(3) l(1) p(1) z(0)",
		"p(X) :- h(X), X = f(Y), l(Y).":           "h(3) l(1) p(2) z(0)",
		"p(X,Y) :- h(X), l(Y), X = Y.":            "h(3) l(1) p(1,1) z(0)",
		"p(X,Y) :- h(X), l(Y), X = f(Y).":         "h(3) l(1) p(2,1) z(0)",
		"p(X,Y) :- h(X), l(Y), f(X) = Y.":         "h(3) l(1) p(3,1) z(0)",
		"{ p(X) : h(X) }.":                        "h(3) l(1) p(3) z(0)",
		"{ p(X) : h(X) } :- l(X).":                "h(3) l(1) p(1) z(0)",
		"{ p(X) : l(X) } :- h(X).":                "h(3) l(1) p(1) z(0)",
		"{ p(X) : h(X), l(X) }.":                  "h(3) l(1) p(1) z(0)",
		"{ p(X) : h(X) ; q(X) : l(X) }.":          "h(3) l(1) p(3) q(1) z(0)",
		"{ p(X) : h(X) ; p(X) : l(X) }.":          "h(3) l(1) p(3) z(0)",
		"{ p(X) : X = Y ; q(1) : l(X) } :- h(Y).": "h(3) l(1) p(3) q(0) z(0)",
		"{ p(X) ; q(X) : l(X) } :- h(X).":         "h(3) l(1) p(3) q(1) z(0)",
		"{ p(X) ; q(X) : not l(X) } :- h(X).":     "h(3) l(1) p(3) q(3) z(0)",
		"p(X) | q(f(X)) :- h(X).":                 "h(3) l(1) p(3) q(4) z(0)",
	} {
		checkSource(t, high+src, want)
	}
}

func TestEquations(t *testing.T) {
	const high = "h(f(f(f(X)))) :- z(X). "
	for src, want := range map[string]string{
		"p(X) :- X = 1.":                                 "h(3) p(0) z(0)",
		"p(X) :- 1 = X.":                                 "h(3) p(0) z(0)",
		"p(f(X),X+1) :- X = f(f(a)).":                    "h(3) p(0,0) z(0)",
		"p(f(X)) :- X = 1..5.":                           "h(3) p(0) z(0)",
		"p(f(X)) :- X = Y+1, Y = 2*3.":                   "h(3) p(0) z(0)",
		"p(X) :- h(Y), X = Y.":                           "h(3) p(3) z(0)",
		"p(X) :- h(Y), Y = X.":                           "h(3) p(3) z(0)",
		"p(X) :- h(Y), X = Y+1.":                         "h(3) p(4) z(0)",
		"p(X) :- h(Y), f(Y,1) = X.":                      "h(3) p(4) z(0)",
		"p(X) :- h(Y), X = 1..Y.":                        "h(3) p(3) z(0)",
		"p(X) :- h(Y), X = f(1..Y).":                     "h(3) p(4) z(0)",
		"p(f(X)) :- h(Y), X = f(f(Y)).":                  "h(3) p(6) z(0)",
		"p(X) :- h(f(f(Y))), X = f(Y).":                  "h(3) p(2) z(0)",
		"p(X) :- z(f(f(Y))), X = f(Y).":                  "h(3) p(0) z(0)",
		"p(f(f(X))) :- z(f(f(Y))), X = f(Y).":            "h(3) p(1) z(0)",
		"p(X) :- h(Y), z(Z), X = Y+f(Z).":                "h(3) p(4) z(0)",
		"p(X) :- h(Y), z(Z), X = Y+f(f(f(f(Z)))).":       "h(3) p(5) z(0)",
		"p(X) :- h(Y), z(Z), X = g(Y,f(f(f(f(f(Z)))))).": "h(3) p(6) z(0)",
		"p(X) :- h(Y), z(Z), X = g(f(f(f(f(f(Z))))),Y).": "h(3) p(6) z(0)",
		"p(X) :- X = Y-1, Y = Z-1, Z = W-1, h(W).":       "h(3) p(6) z(0)",
		"p(X) :- h(W), Z = W-1, Y = Z-1, X = Y-1.":       "h(3) p(6) z(0)",
		"p(X) :- h(Y), X = f(Y), X = f(f(Z)), z(Z).":     "h(3) p(2) z(0)",
		"p(X) :- h(Y), X = f(Y), X = f(f(Z)).":           "h(3) p(4) z(0)",
		"p(X) :- h(Y), X = f(Y,1), X = f(Y,Z), z(Z).":    "h(3) p(4) z(0)",
		"p(X) :- X = Y, Y = X, X = Z, h(Z).":             "h(3) p(3) z(0)",
		"p(X,Y) :- X = f(Y), Y = f(X), h(X).":            "h(3) p(3,4) z(0)",
		"p(X) :- h(X), X = f(X).":                        "h(3) p(3) z(0)",
		"p(X) :- h(X), X = X.":                           "h(3) p(3) z(0)",
		"p(Y) :- X = Y, X = 1..3.":                       "h(3) p(0) z(0)",
		"p(Y+1) :- Y = X+1, X = 1, h(X).":                "h(3) p(0) z(0)",
		"p(Y) :- Y = f(X), X = 1, z(Z), Y = Z.":          "h(3) p(0) z(0)",
		"p(Y) :- Y = g(X,Z), X = 1, z(Z).":               "h(3) p(1) z(0)",
		"p(X) :- f(X) = f(Y), h(X), z(Y).":               "h(3) p(3) z(0)",
		"p(X) :- 1+Y = X-1, h(X), z(Y).":                 "h(3) p(3) z(0)",
		"p(X) :- h(X), z(Y), X = Y : z(Y).":              "h(3) p(3) z(0)",
		"p(X) :- h(X), z(Y), X >= Y, X <= Y.":            "h(3) p(3) z(0)",
		"p(X) :- h(X), z(Y), X != Y.":                    "h(3) p(3) z(0)",
		"p(X) :- h(X), #sum { 1 : X = 1 } > 0.":          "h(3) p(3) z(0)",
		"p(X) :- h(X), #sum { 1 : z(1) } = X.":           "h(3) p(3) z(0)",
		"{ p(X) : X = f(Y) } :- h(Y).":                   "h(3) p(4) z(0)",
		"{ p(X) : z(Y) } :- X = f(Y).":                   "h(3) p(1) z(0)",
		"{ p(X) : X = Y ; q(X) : X = f(Y) } :- h(Y).":    "h(3) p(3) q(4) z(0)",
	} {
		checkSource(t, high+src, want)
	}
}

func TestRecursion(t *testing.T) {
	for src, want := range map[string]string{
		"p(X) :- p(X).":                                                                "p(0)",
		"p(X,Y) :- p(Y,X).":                                                            "p(0,0)",
		"p(f(X)) :- p(f(X)).":                                                          "p(0)",
		"p(X) :- p(f(X)).":                                                             "p(0)",
		"p(f(X)) :- q(X). q(X) :- p(f(X)).":                                            "p(1) q(0)",
		"p(f(X)) :- q(X). q(X) :- p(f(f(X))).":                                         "p(1) q(0)",
		"p(f(X)) :- p(X), q(X).":                                                       "p(1) q(0)",
		"p(f(X)) :- p(X), q(X). q(f(f(X))) :- r(X).":                                   "p(3) q(2) r(0)",
		"p(f(X)) :- p(X), q(Y), X = f(f(Y)).":                                          "p(3) q(0)",
		"p(f(X)) :- p(X), X = 1..9.":                                                   "p(0)",
		"p(X+1) :- p(X), X = 1..9.":                                                    "p(0)",
		"p(X..Y) :- p(X), p(Y).":                                                       "p(0)",
		"p(Y) :- p(X), Y = 1..X.":                                                      "p(0)",
		"p(f(X),Y) :- p(X,f(Y)), q(X).":                                                "p(1,0) q(0)",
		"p(f(X)) :- q(X). q(X) :- r(X). r(X) :- p(f(X)), r(X).":                        "p(1) q(0) r(0)",
		"p(f(X)) :- q(X). q(f(X)) :- r(X). r(X) :- p(f(f(X))).":                        "p(2) q(1) r(0)",
		"p(f(X)) :- q(X). q(f(X)) :- r(X). r(f(X)) :- p(f(f(f(X)))), s(X).":            "p(2) q(1) r(0) s(0)",
		"e(1,2). t(X,Y) :- e(X,Y). t(X,Z) :- t(X,Y), e(Y,Z).":                          "e(0,0) t(0,0)",
		"p(f(X)) :- p(X), q(X). q(X) :- p(f(f(X))), q(X). q(f(X)) :- r(X).":            "p(2) q(1) r(0)",
		"p(f(f(X))) :- q(X). q(X) :- p(f(X)), r(X). r(f(X)) :- q(X), s(X).":            "p(3) q(1) r(1) s(0)",
		"{ p(X) ; q(f(X)) } :- q(X), r(X). r(1..3).":                                   "p(0) q(1) r(0)",
		"{ p(f(X)) : s(X) ; q(X) : r(X) } :- a(Y), b(Y), c(Y). s(f(X)) :- p(Y), z(X).": "a(0) b(0) c(0) p(2) q(0) r(0) s(1) z(0)",
		"{ p(f(X)) ; t(X) } :- z(X). q(X) :- p(X).":                                    "p(1) q(1) t(0) z(0)",
		"{ t(X) ; p(f(X)) } :- z(X). q(X) :- p(X).":                                    "p(1) q(1) t(0) z(0)",
		"p(f(X)) | q(X) :- q(f(X)).":                                                   "p(0) q(0)",
	} {
		checkSource(t, src, want)
	}
}

func TestNotRestricted(t *testing.T) {
	for _, src := range []string{
		"p(X).",
		"p(f(X)) :- q(Y).",
		"{ p(X) }.",
		":~ p(1). [1] p(X) :- not q(X).",
		"p(X) :- q(X+1).",
		"p(X) :- q(-X).",
		"p(X) :- q(f(X+1)).",
		"p(X) :- q(f(X)+1).",
		"p(X) :- q(1..X).",
		"p(X) :- q(f(X..2)).",
		"p(X) :- X < 3.",
		"p(X) :- X != 3.",
		"p(X) :- X = Y.",
		"p(X) :- X = Y, Y = X.",
		"p(X) :- X = f(X).",
		"p(X) :- X = X.",
		"p(X) :- X = Y+1, q(Y+1).",
		"p(X) :- X+1 = 2.",
		"p(X) :- f(X) = f(1).",
		"p(X) :- q(X) : r(X).",
		"p(X) :- q(1) : r(X).",
		"p(X) :- #count { X : q(X) } > 0.",
		"p(X) :- #count { 1 : q(1) } = X.",
		"{ p(X) : q(X) ; r(X) }.",
		"{ p(X) : q(X) ; r(X) : s(Y) }.",
		"{ p(X) : X = Y ; r(1) : q(Y) }.",
		"p(1) | q(X) :- r(Y).",
		"p(X,1) :- q(Y). p(1,Y) :- q(Y).",

		"p(f(X)) :- p(X).",
		"p(X+1) :- p(X).",
		"p(f(f(X))) :- p(f(X)).",
		"p(1). p(X+1) :- p(X), X < 10.",
		"p(Y) :- p(X), Y = X+1.",
		"p(Y) :- p(X), X+1 = Y.",
		"p(Y) :- p(X), Y = Z, Z = f(X).",
		"p(X) :- q(X). q(f(X)) :- p(X).",
		"p(f(X)) :- q(X). q(X) :- p(X).",
		"p(f(f(X))) :- q(X). q(X) :- p(f(X)).",
		"p(f(X),Y) :- p(X,Y).",
		"p(Y,f(X)) :- p(X,Y).",
		"p(f(X)) :- p(X), q(f(X)). q(f(f(X))) :- p(X).",
		"p(f(X)) :- p(X), q(X). q(X) :- p(X).",
		"p(X+Y) :- p(X), q(Y). q(1).",
		"p(f(X,Y)) :- p(X), q(Y).",
		"{ p(f(X)) : p(X) }.",
		"{ p(f(X)) : q(Y) } :- p(X).",
		"{ q(1) ; p(f(X)) } :- p(X).",
		"p(f(X)) | q(1) :- p(X).",
		"q(1) | p(f(X)) :- q(X). q(X) :- p(X).",
		"p(f(X)) :- p(X), X = Y, Y = X.",
		"p(f(X)) :- p(X), not q(X).",
		"p(1) :- q(1). q(f(X)) :- q(X). r(2).",
		"p(f(X)) :- q(X), r(X). q(X) :- p(X). r(X) :- p(X).",
	} {
		checkSource(t, src, none)
	}
}

// TestFittingRankings checks that a ranking may be greater than the least one, but not in any way.
func TestFittingRankings(t *testing.T) {
	const src = "p(f(X)) :- p(X), q(X). q(X) :- p(f(X)), r(X)."
	checkSource(t, src, "p(1) q(0) r(0)")
	for i := range 4 * 4 * 4 {
		p, q, r := i/16, i/4%4, i%4
		checkFits(t, src, programOf(t, src), []int{p, q, r}, p > q && q >= min(p-1, r))
	}
}

// TestOneRuleWithoutABound checks that no other rule makes up for a variable without a bound.
func TestOneRuleWithoutABound(t *testing.T) {
	for _, src := range []string{"p(X) :- q(X).", "q(f(X)) :- r(X).", "p(X) :- r(X), s(X). s(1..9)."} {
		for _, added := range []string{"p(X).", "p(X) :- q(X+1).", "t(X) :- not p(X).", "t(1,Y) :- q(X)."} {
			checkSource(t, src+added, none)
			checkSource(t, added+src, none)
		}
	}
}

// TestKindsOfPremises checks that the premises of all kinds of rules count.
func TestKindsOfPremises(t *testing.T) {
	x := variable("X")
	for kind := range 256 {
		r := api.Rule{Kind: uint8(kind), Heads: []api.Head{{Atom: atom("p", function(x)), Cond: []api.Lit{positive("q", x)}}}, Body: []api.Body{bodyLit(positive("r", x))}}
		const high = "q(f(X)) :- z(X). r(f(f(X))) :- z(X)."
		p := programOf(t, high)
		p.Rules = append(p.Rules, r)
		check(t, "a rule", p, "p(2) q(1) r(2) z(0)")
		p.Rules[2].Heads[0].Cond = nil
		check(t, "a rule without a condition", p, "p(3) q(1) r(2) z(0)")
		p.Rules[2].Body = nil
		check(t, "a rule without premises", p, none)
	}
}
