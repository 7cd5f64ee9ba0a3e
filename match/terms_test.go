package match_test

import (
	"strings"
	"testing"

	"ostler/api"
	"ostler/parse"
	"ostler/term"
)

// The functions of this file produce and compare terms and bindings.

func number(n int) api.Term { return api.Term{Kind: api.TermInt, Num: n} }

func symbol(name string) api.Term { return api.Term{Kind: api.TermSym, Name: name} }

func variable(name string) api.Term { return api.Term{Kind: api.TermVar, Name: name} }

func function(name string, args ...api.Term) api.Term {
	return api.Term{Kind: api.TermFun, Name: name, Args: args}
}

func atom(pred string, args ...api.Term) api.Atom { return api.Atom{Pred: pred, Args: args} }

// tower returns a term that encloses another one so that, if that has depth 1, the result has the given depth.
func tower(depth int, inner api.Term) api.Term {
	t := inner
	for range depth - 1 {
		t = function("f", t)
	}
	return t
}

// termOf parses a term that must not have errors.
func termOf(t *testing.T, src string) api.Term {
	t.Helper()
	x, at, e := parse.Term(src)
	if e != api.OK {
		t.Fatalf("%q: error %d at %d", src, e, at)
	}
	return x
}

// bindingOf parses pairs like X=1, separated by spaces.
func bindingOf(t *testing.T, src string) api.Binding {
	t.Helper()
	var b api.Binding
	for _, pair := range strings.Fields(src) {
		name, value, _ := strings.Cut(pair, "=")
		b = append(b, api.Bind{Name: name, Val: termOf(t, value)})
	}
	return b
}

// bindingText returns the text that bindingOf parses.
func bindingText(b api.Binding) string {
	var l []string
	for _, x := range b {
		l = append(l, x.Name+"="+term.String(x.Val))
	}
	return strings.Join(l, " ")
}

func equalBindings(a, b api.Binding) bool {
	if len(a) != len(b) {
		return false
	}
	for i := range a {
		if a[i].Name != b[i].Name || !term.Equal(a[i].Val, b[i].Val) {
			return false
		}
	}
	return true
}

// invalidTerms returns terms that are not valid.
func invalidTerms() []api.Term {
	one := number(1)
	nine := []api.Term{one, one, one, one, one, one, one, one, one}
	return []api.Term{
		{}, {Kind: 7}, {Kind: 255}, number(api.MaxInt + 1), number(-api.MaxInt - 1), {Kind: api.TermInt, Num: 1, Name: "a"}, {Kind: api.TermInt, Num: 1, Args: []api.Term{one}},
		symbol(""), symbol("X"), symbol("not"), symbol(strings.Repeat("a", 33)), {Kind: api.TermSym, Name: "a", Num: 1}, variable(""), variable("a"), {Kind: api.TermVar, Name: "X", Num: 1}, {Kind: api.TermVar, Name: "X", Args: []api.Term{one}},
		function("f"), function("F", one), function("", one), function("f", nine...), function("f", api.Term{}), function("f", one, symbol("not")), tower(13, one), tower(1<<16, one),
		{Kind: api.TermOp, Name: "+", Args: []api.Term{one}}, {Kind: api.TermOp, Name: "%", Args: []api.Term{one, one}}, {Kind: api.TermRange, Args: []api.Term{one}}, {Kind: api.TermRange, Name: "a", Args: []api.Term{one, one}},
	}
}

func pair(name string, v api.Term) api.Bind { return api.Bind{Name: name, Val: v} }

// invalidBindings returns bindings that are not valid, of which nearly all contain X with the value 1.
func invalidBindings() []api.Binding {
	one := number(1)
	var l []api.Binding
	for _, names := range []string{"X X", "X W", "X Y Y", "X Z Y", "W _ X", "XX X", "X Y X", "X a", "X __", "1", "X _1a", "X not", "X \xff", "X Y" + strings.Repeat("y", 32)} {
		var b api.Binding
		for name := range strings.FieldsSeq(names) {
			b = append(b, pair(name, one))
		}
		l = append(l, b)
	}
	l = append(l, api.Binding{pair("", one), pair("X", one)}, api.Binding{pair("X", one), pair("Y Z", one)}, api.Binding{pair("X", variable("X"))})
	for _, v := range append(invalidTerms(), notValues()...) {
		l = append(l, api.Binding{pair("X", one), pair("Y", v)})
	}
	return l
}

// notValues returns valid terms that are not values.
func notValues() []api.Term {
	one := number(1)
	sum := api.Term{Kind: api.TermOp, Name: "+", Args: []api.Term{one, one}}
	interval := api.Term{Kind: api.TermRange, Args: []api.Term{one, one}}
	return []api.Term{variable("X"), variable("Y"), variable("_"), sum, interval, function("f", variable("Z")), function("f", one, sum), function("f", function("g", interval))}
}
