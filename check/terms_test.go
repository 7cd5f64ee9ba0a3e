package check_test

import (
	"strings"
	"testing"

	"ostler/api"
	"ostler/format"
)

// The functions of this file produce terms, and texts of terms, of given sizes.

func number(n int) api.Term { return api.Term{Kind: api.TermInt, Num: n} }

func symbol(name string) api.Term { return api.Term{Kind: api.TermSym, Name: name} }

// tower returns a term that encloses another one so that, if that has depth 1, the result has the given depth.
func tower(depth int, inner api.Term) api.Term {
	t := inner
	for range depth - 1 {
		t = api.Term{Kind: api.TermFun, Name: "f", Args: []api.Term{t}}
	}
	return t
}

// wide returns a function term, or an integer, with a number of parts.
func wide(parts int) api.Term {
	t := number(1)
	left := parts - 1
	for i := api.MaxArgs; i > 0 && left > 0; i-- {
		part := (left + i - 1) / i
		t.Args = append(t.Args, wide(part))
		left -= part
	}
	if len(t.Args) > 0 {
		t.Kind, t.Num, t.Name = api.TermFun, 0, "f"
	}
	return t
}

// sum returns the text of a sum of 2^(depth-1) equal terms, which has the given depth if they have depth 1.
func sum(depth int, item string) string {
	if depth == 1 {
		return item
	}
	half := sum(depth-1, item)
	if depth == 2 {
		return half + "+" + half
	}
	return half + "+(" + half + ")"
}

// bush returns the text of a function term that contains an item 8 times at each but the last level.
func bush(depth int, item string) string {
	if depth == 1 {
		return item
	}
	return "f(" + strings.Repeat(bush(depth-1, item)+",", api.MaxArgs-1) + bush(depth-1, item) + ")"
}

// sizedRule returns a rule that contains an item 64 times, and whose source has a number of bytes.
func sizedRule(t *testing.T, size int, item string) api.Rule {
	t.Helper()
	p := programOf(t, "p("+bush(3, item)+").")
	head := &p.Rules[0].Heads[0].Atom
	p.Rules[0].Heads[0].Atom.Args = append(head.Args, padding(size-len("p("+bush(3, item)+",).")))
	src, _ := format.Rule(p.Rules[0])
	if size <= api.MaxSource && len(src) != size {
		t.Fatalf("%d bytes instead of %d", len(src), size)
	}
	return p.Rules[0]
}

// padding returns a term whose text has a number of bytes.
func padding(size int) api.Term {
	if size <= api.MaxName {
		return symbol(strings.Repeat("a", size))
	}
	t := api.Term{Kind: api.TermFun, Name: "f"}
	left := size - len("f(,,,,,,,)")
	for i := range api.MaxArgs {
		part := left / (api.MaxArgs - i)
		left -= part
		t.Args = append(t.Args, padding(part))
	}
	return t
}
