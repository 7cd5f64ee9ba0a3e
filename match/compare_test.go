package match_test

import (
	"math"
	"testing"

	"ostler/api"
	"ostler/match"
)

// P7.4

// ordered is an increasing list of terms, some of which are not values or not valid.
func ordered(t *testing.T) []api.Term {
	l := []api.Term{number(math.MinInt)}
	for _, src := range []string{"-2147483647", "-3", "0", "2", "10", "a", "aa", "b", "f(2)", "f(10)", "f(a)", "g(1)", "f(0,0)", "f(0,a)", "X", "Y", "-X", "1+1", "1-1", "1..2", "1..3"} {
		l = append(l, termOf(t, src))
	}
	return append(l, api.Term{}, api.Term{Kind: 7}, api.Term{Kind: 255, Args: []api.Term{{}}})
}

func TestTest(t *testing.T) {
	l := ordered(t)
	for i, a := range l {
		for k, b := range l {
			for op, want := range map[uint8]bool{
				api.OpEq: i == k, api.OpNe: i != k, api.OpLt: i < k, api.OpLe: i <= k, api.OpGt: i > k, api.OpGe: i >= k,
			} {
				if match.Test(op, a, b) != want {
					t.Errorf("operator %d, %v with %v: %v", op, a, b, !want)
				}
			}
		}
	}
	nilArgs, noArgs := symbol("a"), symbol("a")
	noArgs.Args = []api.Term{}
	if !match.Test(api.OpEq, nilArgs, noArgs) || match.Test(api.OpNe, noArgs, nilArgs) {
		t.Error("a nil slice equals an empty one")
	}
	if !match.Test(api.OpLt, tower(1<<16, number(1)), tower(1<<16, number(2))) {
		t.Error("deep terms")
	}
}

func TestOtherOperators(t *testing.T) {
	l := ordered(t)
	for op := range 256 {
		if int(api.OpEq) <= op && op <= int(api.OpGe) {
			continue
		}
		for i := range l {
			if match.Test(uint8(op), l[i], l[i]) || i > 0 && (match.Test(uint8(op), l[i-1], l[i]) || match.Test(uint8(op), l[i], l[i-1])) {
				t.Errorf("operator %d, %v", op, l[i])
			}
		}
	}
}
