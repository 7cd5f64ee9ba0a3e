package check_test

import (
	"slices"
	"strconv"
	"strings"
	"testing"

	"ostler/api"
	"ostler/check"
	"ostler/format"
)

// checkDesugar compares the result with the program of another source.
func checkDesugar(t *testing.T, src, want string) {
	t.Helper()
	p := programOf(t, src)
	d, e := check.Desugar(p)
	if got, _ := format.Program(d); e != api.OK || !format.Same(d, programOf(t, want)) {
		t.Errorf("%q: %q, error %d, want %q", src, got, e, want)
	}
}

// P6.3: constants

func TestReplacedConstants(t *testing.T) {
	for src, want := range map[string]string{
		"p(n).":                                  "p(7).",
		"p(f(g(n),n)).":                          "p(f(g(7),7)).",
		"n(n) :- n, not n, n(n) : n; n(n) = n.":  "n(7) :- n, not n, n(7) : n; n(7) = 7.",
		"n | n(n,m) | m.":                        "n | n(7,f(a,7)) | m.",
		"{ n; n(n) : n, n(n), n < n }.":          "{ n; n(7) : n, n(7), 7 < 7 }.",
		"n { a } n+1.":                           "7 { a } 7+1.",
		"m { a } m.":                             "f(a,7) { a } f(a,7).",
		":- #count{ n,m : n(n), n = n; n } > n.": ":- #count{ 7,f(a,7) : n(7), 7 = 7; 7 } > 7.",
		":- not #sum{ n } = n*n.":                ":- not #sum{ 7 } = 7*7.",
		":~ n(n). [n@n,n,X]":                     ":~ n(7). [7@7,7,X]",
		"#minimize{ n@n,n : n }.":                ":~ n. [7@7,7]",
		"p(1-l,-l,l-1,l..n,l+l).":                "p(1--3,-(-3),-3-1,-3..7,-3+-3).",
		"p(-n,-m,m+n).":                          "p(-(7),-f(a,7),f(a,7)+7).",
		"p(a,b,f,nn,N,_n).":                      "p(a,b,f,nn,N,_n).",
		"a. #show n/0. #show m/7.":               "a. #show n/0. #show m/7.",
		"a. #show.":                              "a. #show.",
		"":                                       "",
		"l { p(n) : q(m), n = l } m :- r(n) : s(l); m != m.": "-3 { p(7) : q(f(a,7)), 7 = -3 } f(a,7) :- r(7) : s(-3); f(a,7) != f(a,7).",
	} {
		checkDesugar(t, "#const n = 7. #const m = f(a,n). #const l = -3. "+src, want)
		checkDesugar(t, src+" #const l = 0-3. #const m = f(a,n). #const n = l+10.", want)
		checkDesugar(t, want, want)
	}
}

// P6.3: anonymous variables

func TestRenamedVariables(t *testing.T) {
	for src, want := range map[string]string{
		"p(_).":                    "p(_1).",
		"p(_,_). q(_). :- r(_,_).": "p(_1,_2). q(_1). :- r(_1,_2).",
		"p(f(_,g(_)),_,_+_,-_).":   "p(f(_1,g(_2)),_3,_4+_5,-_6).",
		"p(_..f(_),g(f(_),_)).":    "p(_1..f(_2),g(f(_3),_4)).",
		"p(X,__Y,_Z) :- q(_).":     "p(X,__Y,_Z) :- q(_1).",

		// The order of the terms.
		"p(_) | q(_) :- r(_), s(_).":                          "p(_1) | q(_2) :- r(_3), s(_4).",
		"{ p(_) : q(_), r(_); s(_) : t(_) } :- u(_).":         "{ p(_1) : q(_2), r(_3); s(_4) : t(_5) } :- u(_6).",
		"_ { p(_) : q(_) } _ :- r(_).":                        "_3 { p(_1) : q(_2) } _4 :- r(_5).",
		"f(_,_) { p(_); q(_) }.":                              "f(_3,_4) { p(_1); q(_2) }.",
		":- p(_) : q(_), not r(_), _ = _; s(_).":              ":- p(_1) : q(_2), not r(_3), _4 = _5; s(_6).",
		":- _ < _, _ = f(_) : _ != _; _ >= _.":                ":- _1 < _2, _3 = f(_4) : _5 != _6; _7 >= _8.",
		":- #count{ _,_ : p(_), _ = 1; _ : q(_) } < _, r(_).": ":- #count{ _1,_2 : p(_3), _4 = 1; _5 : q(_6) } < _7, r(_8).",
		":- not #sum{ _ } >= _, not p(_).":                    ":- not #sum{ _1 } >= _2, not p(_3).",
		":~ p(_), _ = _. [_@_,_,f(_)]":                        ":~ p(_1), _2 = _3. [_4@_5,_6,f(_7)]",
		"#minimize{ _@_,_ : p(_); _ : q(_) }.":                "#minimize{ _2@_3,_4 : p(_1); _2 : q(_1) }.",

		// Names that the rule contains already, wherever that is.
		"p(_1,_).":                 "p(_1,_2).",
		"p(_,_1).":                 "p(_2,_1).",
		"p(_,_,_) :- q(_2).":       "p(_1,_3,_4) :- q(_2).",
		"p(_,_,_) :- q(_2,_3,_1).": "p(_4,_5,_6) :- q(_2,_3,_1).",
		"p(_3,_,_,_,_,_5).":        "p(_3,_1,_2,_4,_6,_5).",
		"p(_,_01,_10,__X1,_a1).":   "p(_1,_01,_10,__X1,_a1).",
		"p(_,_,_10,_,_,_). q(_) :- r(f(_,_),_,_,_,_).": "p(_1,_2,_10,_3,_4,_5). q(_1) :- r(f(_2,_3),_4,_5,_6,_7).",
		"p(_9,_11) :- q(_,_,_,_,_,_,_,_), r(_,_,_).":   "p(_9,_11) :- q(_1,_2,_3,_4,_5,_6,_7,_8), r(_10,_12,_13).",
		"p(_,_01,_00,_0).":               "p(_1,_01,_00,_0).",
		"p(_) :- f(_1) = 2.":             "p(_2) :- f(_1) = 2.",
		"p(_) :- 2 = f(_1).":             "p(_2) :- 2 = f(_1).",
		"p(_) :- q : r(_1).":             "p(_2) :- q : r(_1).",
		"p(_) :- q(_1) : r.":             "p(_2) :- q(_1) : r.",
		"p(_) :- #sum{ -_1 } = 1.":       "p(_2) :- #sum{ -_1 } = 1.",
		"p(_) :- #sum{ 1 : p(_1) } = 1.": "p(_2) :- #sum{ 1 : p(_1) } = 1.",
		"p(_) :- #sum{ 1 } = _1.":        "p(_2) :- #sum{ 1 } = _1.",
		"_1 { p(_) }.":                   "_1 { p(_2) }.",
		"{ p(_) } _1.":                   "{ p(_2) } _1.",
		"{ p(_) : q(_1) }.":              "{ p(_2) : q(_1) }.",
		":~ p(_). [_1@0]":                ":~ p(_2). [_1@0]",
		":~ p(_). [0@_1]":                ":~ p(_2). [0@_1]",
		":~ p(_). [0@0,_1]":              ":~ p(_2). [0@0,_1]",
		"p(_). q(_1,_). r(_).":           "p(_1). q(_1,_2). r(_1).",
	} {
		checkDesugar(t, src, want)
		checkDesugar(t, want, want)
	}
}

// TestExample is the example of the chapter.
func TestExample(t *testing.T) {
	src := "#const n = m+1. #const m = 2. p(n,f(_),_1) :- n(X), q(_,n)."
	checkDesugar(t, src, "p(3,f(_2),_1) :- n(X), q(_3,3).")
	checkConsts(t, src, "#const m = 2. #const n = 3.")
	checkSources(t, check.ErrConst, "#const n = n.", "#const n = a+1.")
	checkSources(t, check.ErrRange, "1..2 { a }.")
}

func TestManyVariables(t *testing.T) {
	vars, want := "", ""
	for i := range 64 {
		vars += ",_"
		want += ",_" + strconv.Itoa(i+1)
	}
	checkDesugar(t, ":~. [1,1"+vars[:len(vars)-2]+"]", ":~. [1,1"+want[:len(want)-4]+"]")
	checkDesugar(t, ":- #count{ "+vars[1:]+" } = 1.", ":- #count{ "+want[1:]+" } = 1.")
}

// P6.3: ErrMany

// places are rules with a term X in every place that a rule can have.
const places = "p(X). | { p(X) }. | { a : p(X) }. | { a : X = 1 }. | X { a }. | { a } X. | :- p(X). | :- not p(X). | :- X = 1. | :- 1 = X. | :- a : p(X). | :- a : 1 < X. | :- #count{ X } = 1. | :- #count{ 1 : p(X) } = 1. | :- #sum{ 1 } = X. | :~ a. [X] | :~ a. [1@X] | :~ a. [1,X]"

func TestDeepResults(t *testing.T) {
	for src := range strings.SplitSeq(places, " | ") {
		for inner := 1; inner <= api.MaxDepth; inner++ {
			for _, outer := range []int{api.MaxDepth - inner + 1, api.MaxDepth - inner + 2} {
				if outer > api.MaxDepth {
					continue
				}
				e := api.OK
				if outer+inner-1 > api.MaxDepth {
					e = api.ErrMany
				}
				text := strings.Repeat("f(", outer-1) + "n" + strings.Repeat(")", outer-1)
				value := strings.Repeat("g(", inner-1) + "a" + strings.Repeat(")", inner-1)
				p := programOf(t, "#const n = "+value+". a. "+strings.ReplaceAll(src, "X", text))
				checkError(t, src+" with "+text+" and "+value, p, api.OK, e)
			}
		}
	}
}

// TestLongResults checks rules whose sources become longer by 64 or more bytes.
func TestLongResults(t *testing.T) {
	for _, c := range []struct {
		item, value string
		growth      int
	}{{"_", "1", 9 + 2*(64-9)}, {"n", "10", 64}, {"n", "f(a)", 3 * 64}, {"n", "-3", 64}, {"n", "1", 0}} {
		for over := range 2 {
			e := api.OK
			if over > 0 {
				e = api.ErrMany
			}
			p := programOf(t, "#const n = "+c.value+". a.")
			p.Rules = append(p.Rules, sizedRule(t, api.MaxSource-c.growth+over, c.item))
			if c.growth > 0 || over == 0 {
				checkError(t, c.item+" becomes "+c.value+", over "+strconv.Itoa(over), p, api.OK, e)
			}
		}
	}
}

// TestLongTogether checks that a result is well-formed although its source is too long.
func TestLongTogether(t *testing.T) {
	p := programOf(t, "#const n = 10. #show p/2.")
	for range 5 {
		p.Rules = append(p.Rules, sizedRule(t, api.MaxSource-64, "n"))
	}
	d, e := check.Desugar(p)
	if e != api.OK || len(d.Rules) != 5 || !format.Same(api.Prog{Shows: d.Shows, Some: d.Some}, api.Prog{Shows: p.Shows, Some: true}) {
		t.Fatalf("%d rules, error %d", len(d.Rules), e)
	}
	for _, r := range d.Rules {
		if src, e := format.Rule(r); len(src) != api.MaxSource || e != api.OK {
			t.Errorf("%d bytes, error %d", len(src), e)
		}
	}
}

// TestEndlessResults replaces constants in rules that would not fit into memory.
func TestEndlessResults(t *testing.T) {
	consts := "#const c = f(b,b,b,b,b,b,b,b). #const b = f(a,a,a,a,a,a,a,a). #const a = f(1,1,1,1,1,1,1,1). "
	terms := bush(5, "c")
	for src := range strings.SplitSeq(places, " | ") {
		p := programOf(t, consts+strings.ReplaceAll(src, "X", terms))
		p.Rules = slices.Repeat(p.Rules, 5)
		checkError(t, src, p, api.OK, api.ErrMany)
	}
}
