package safety_test

import (
	"slices"
	"strings"
	"testing"

	"ostler/api"
	"ostler/parse"
)

// The functions of this file produce terms, literals and rules, and compare sets of variables.

func number(n int) api.Term { return api.Term{Kind: api.TermInt, Num: n} }

func variable(name string) api.Term { return api.Term{Kind: api.TermVar, Name: name} }

func function(name string, args ...api.Term) api.Term {
	return api.Term{Kind: api.TermFun, Name: name, Args: args}
}

func sum(a, b api.Term) api.Term {
	return api.Term{Kind: api.TermOp, Name: "+", Args: []api.Term{a, b}}
}

func atom(pred string, args ...api.Term) api.Atom { return api.Atom{Pred: pred, Args: args} }

func positive(pred string, args ...api.Term) api.Lit {
	return api.Lit{Kind: api.LitAtom, Atom: atom(pred, args...)}
}

func equation(l, r api.Term) api.Lit {
	return api.Lit{Kind: api.LitComp, Op: api.OpEq, L: l, R: r}
}

func bodyLit(l api.Lit) api.Body { return api.Body{Kind: api.BodyLit, Lit: l} }

// tower returns a term that encloses another one so that, if that has depth 1, the result has the given depth.
func tower(depth int, inner api.Term) api.Term {
	t := inner
	for range depth - 1 {
		t = function("f", t)
	}
	return t
}

// ruleOf parses a rule that must not have errors.
func ruleOf(t *testing.T, src string) api.Rule {
	t.Helper()
	r, at, e := parse.Rule(src)
	if e != api.OK {
		t.Fatalf("%q: error %d at %d", src, e, at)
	}
	return r
}

// literalsOf parses literals, separated by commas.
func literalsOf(t *testing.T, src string) []api.Lit {
	t.Helper()
	var l []api.Lit
	if src == "" {
		return l
	}
	for _, b := range ruleOf(t, ":- "+src+".").Body {
		l = append(l, b.Lit)
	}
	return l
}

// checkNames compares variables with those of a text that separates them by spaces.
func checkNames(t *testing.T, call string, got []string, want string) {
	t.Helper()
	if !slices.Equal(got, strings.Fields(want)) {
		t.Errorf("%s: %.200q, want %q", call, got, want)
	}
}

// text returns the text that checkNames expects for variables.
func text(names []string) string { return strings.Join(distinct(slices.Clone(names)), " ") }
