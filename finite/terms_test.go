package finite_test

import (
	"slices"
	"strconv"
	"strings"
	"testing"

	"ostler/api"
	"ostler/finite"
	"ostler/parse"
)

// The functions of this file produce terms, literals, rules and programs, and compare rankings.

func number(n int) api.Term { return api.Term{Kind: api.TermInt, Num: n} }

func variable(name string) api.Term { return api.Term{Kind: api.TermVar, Name: name} }

func function(args ...api.Term) api.Term {
	return api.Term{Kind: api.TermFun, Name: "f", Args: args}
}

func operation(args ...api.Term) api.Term {
	return api.Term{Kind: api.TermOp, Name: "+", Args: args}
}

func interval(args ...api.Term) api.Term { return api.Term{Kind: api.TermRange, Args: args} }

// tower returns a term in which another one occurs at a depth.
func tower(depth int, inner api.Term) api.Term {
	t := inner
	for range depth {
		t = function(t)
	}
	return t
}

func atom(pred string, args ...api.Term) api.Atom { return api.Atom{Pred: pred, Args: args} }

func positive(pred string, args ...api.Term) api.Lit {
	return api.Lit{Kind: api.LitAtom, Atom: atom(pred, args...)}
}

func equation(l, r api.Term) api.Lit {
	return api.Lit{Kind: api.LitComp, Op: api.OpEq, L: l, R: r}
}

func bodyLit(l api.Lit) api.Body { return api.Body{Kind: api.BodyLit, Lit: l} }

// rule returns a rule with one head.
func rule(head api.Atom, body ...api.Lit) api.Rule {
	r := api.Rule{Kind: api.RuleDisj, Heads: []api.Head{{Atom: head}}}
	for _, l := range body {
		r.Body = append(r.Body, bodyLit(l))
	}
	return r
}

func program(rules ...api.Rule) api.Prog { return api.Prog{Rules: rules} }

// programOf parses a program that must not have errors.
func programOf(t *testing.T, src string) api.Prog {
	t.Helper()
	p, at, e := parse.Parse(src)
	if e != api.OK {
		t.Fatalf("%q: error %d at %d", src, e, at)
	}
	return p
}

// placesText returns a text like p(0,1) q(0) of places.
func placesText(l []finite.Place) string {
	args := make([]int, len(l))
	for i, x := range l {
		args[i] = x.Arg
	}
	return textOf(l, args)
}

// textOf returns a text like p(2,0) q(1) in which each place has its number.
func textOf(l []finite.Place, numbers []int) string {
	var texts []string
	for i, x := range l {
		n := strconv.Itoa(numbers[i])
		if i > 0 && l[i-1].Sig == x.Sig && x.Arg > 0 {
			texts[len(texts)-1] += "," + n
		} else {
			texts = append(texts, x.Sig.Name+"("+n)
		}
	}
	if len(texts) == 0 {
		return ""
	}
	return strings.Join(texts, ") ") + ")"
}

const none = "none"

// result returns the text of the least ranking of a program, or none.
func result(t *testing.T, p api.Prog) string {
	t.Helper()
	ranks, e := finite.Ranks(p)
	places := finite.Places(p)
	switch {
	case e == finite.ErrRank && len(ranks) == 0:
		return none
	case e != api.OK || len(ranks) != len(places):
		t.Fatalf("error %d and the ranks %v for %d places", e, ranks, len(places))
	}
	return textOf(places, ranks)
}

// check compares the least ranking of a program with a text. It checks that this ranking fits, and that no lower one does.
func check(t *testing.T, name string, p api.Prog, want string) {
	t.Helper()
	got := result(t, p)
	if got != want {
		t.Errorf("Ranks of %s: %.300s, want %.300s", name, got, want)
	}
	if got == none {
		return
	}
	ranks, _ := finite.Ranks(p)
	checkFits(t, name, p, ranks, true)
	for i := range ranks {
		lower := slices.Clone(ranks)
		lower[i]--
		checkFits(t, name, p, lower, false)
	}
}

func checkFits(t *testing.T, name string, p api.Prog, ranks []int, want bool) {
	t.Helper()
	if got := finite.Fits(p, ranks); got != want {
		t.Errorf("Fits of %s and %v: %v", name, ranks, got)
	}
}

// checkSource does the same for a source.
func checkSource(t *testing.T, src, want string) {
	t.Helper()
	check(t, src, programOf(t, src), want)
}
