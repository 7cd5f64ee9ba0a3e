package check_test

import (
	"testing"

	"ostler/api"
	"ostler/check"
	"ostler/format"
)

// checkConsts compares the values of a program's constants with other definitions.
func checkConsts(t *testing.T, src, want string) {
	t.Helper()
	l, e := check.Consts(programOf(t, src))
	got := api.Prog{Consts: l}
	if text, _ := format.Program(got); e != api.OK || !format.Same(got, programOf(t, want)) {
		t.Errorf("%.200q: %.500q, error %d", src, text, e)
	}
}

// P6.2

func TestConsts(t *testing.T) {
	for src, want := range map[string]string{
		"":                                       "",
		"a. p(n) :- n. #show.":                   "",
		"#const n = 1.":                          "#const n = 1.",
		"#const n = -3.":                         "#const n = -3.",
		"#const n = -(3).":                       "#const n = -3.",
		"#const n = a.":                          "#const n = a.",
		"#const n = f(a,g(1+1),2*3-7\\4).":       "#const n = f(a,g(2),3).",
		"#const n = m+1. #const m = 2.":          "#const m = 2. #const n = 3.",
		"#const n = n(1). p(n).":                 "#const n = n(1).",
		"#const n = m(m,n(m)). #const m = m(1).": "#const m = m(1). #const n = m(m(1),n(m(1))).",
		"#const b = a*2. #const a = 7. #const ab = f(b).":     "#const a = 7. #const ab = f(14). #const b = 14.",
		"#const c = 1. #const b = c. #const a = b.":           "#const a = 1. #const b = 1. #const c = 1.",
		"#const a = f(b,b). #const b = g(c,c). #const c = 1.": "#const a = f(g(1,1),g(1,1)). #const b = g(1,1). #const c = 1.",
		"#const b = 5. #const a_ = 4. #const aa = 3. #const aA = 2. #const a1 = 1. #const a = 6. #const _b = 7. #const _a = 8. #const __z = 9.": "#const __z = 9. #const _a = 8. #const _b = 7. #const a = 6. #const a1 = 1. #const aA = 2. #const a_ = 4. #const aa = 3. #const b = 5.",
		"#const n10 = 10. #const n9 = 9. #const n = 0. #const n1 = 1.":                                                                          "#const n = 0. #const n1 = 1. #const n10 = 10. #const n9 = 9.",
		"#const n = 1-1. #const m = n/5. #const k = (n+m)*7. #const l = f(n,m,k).":                                                              "#const k = 0. #const l = f(0,0,0). #const m = 0. #const n = 0.",
		"1 { a } 2 :- b. #const m = 2147483647. #const n = -m. #show a/0. #show b/0.":                                                           "#const m = 2147483647. #const n = -2147483647.",
	} {
		checkConsts(t, src, want)
	}
}
