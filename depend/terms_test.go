package depend_test

import (
	"slices"
	"strconv"
	"strings"
	"testing"

	"ostler/api"
	"ostler/depend"
	"ostler/parse"
)

// The functions of this file produce predicates, literals and programs, and texts of results.

// sig returns the predicate with a text like p/2.
func sig(text string) api.Sig {
	i := strings.LastIndexByte(text, '/')
	arity, _ := strconv.Atoi(text[i+1:])
	return api.Sig{Name: text[:i], Arity: arity}
}

// sigs returns the predicates of a text that separates them by spaces.
func sigs(text string) []api.Sig {
	var l []api.Sig
	for _, s := range strings.Fields(text) {
		l = append(l, sig(s))
	}
	return l
}

// atom returns an atom of the predicate with a text like p/2.
func atom(text string) api.Atom {
	s := sig(text)
	return api.Atom{Pred: s.Name, Args: make([]api.Term, s.Arity)}
}

func positive(text string) api.Lit { return api.Lit{Kind: api.LitAtom, Atom: atom(text)} }

func negative(text string) api.Lit {
	l := positive(text)
	l.Not = true
	return l
}

func head(text string, cond ...api.Lit) api.Head { return api.Head{Atom: atom(text), Cond: cond} }

func bodyLit(l api.Lit) api.Body { return api.Body{Kind: api.BodyLit, Lit: l} }

func program(rules ...api.Rule) api.Prog { return api.Prog{Rules: rules} }

// programOf parses a program that must not have errors.
func programOf(t *testing.T, src string) api.Prog {
	t.Helper()
	p, at, e := parse.Parse(src)
	if e != api.OK {
		t.Fatalf("%q: error %d at %d", src, e, at)
	}
	return p
}

func textOf(s api.Sig) string { return s.Name + "/" + strconv.Itoa(s.Arity) }

func sigsText(l []api.Sig) string {
	var texts []string
	for _, s := range l {
		texts = append(texts, textOf(s))
	}
	return strings.Join(texts, " ")
}

// edgesText returns a text like a/0 b/1, a/0 -b/1 in which the second edge is negative.
func edgesText(l []depend.Edge) string {
	var texts []string
	for _, e := range l {
		sign := map[bool]string{true: "-"}[e.Neg]
		texts = append(texts, textOf(e.From)+" "+sign+textOf(e.To))
	}
	return strings.Join(texts, ", ")
}

// componentsText returns a text like a/0 b/0; c/0.
func componentsText(l [][]api.Sig) string {
	var texts []string
	for _, c := range l {
		texts = append(texts, sigsText(c))
	}
	return strings.Join(texts, "; ")
}

func same(t *testing.T, call, got, want string) {
	t.Helper()
	if got != want {
		t.Errorf("%s: %.300q, want %.300q", call, got, want)
	}
}

// expected is what the functions return for a program. Recursive is the text of the recursive components.
type expected struct{ sigs, edges, components, recursive, domain string }

func results(p api.Prog) expected {
	components := depend.Components(p)
	recursive := slices.DeleteFunc(slices.Clone(components), func(c []api.Sig) bool { return !depend.Recursive(p, c) })
	return expected{sigsText(depend.Sigs(p)), edgesText(depend.Edges(p)), componentsText(components), componentsText(recursive), sigsText(depend.Domain(p))}
}

func check(t *testing.T, name string, p api.Prog, want expected) {
	t.Helper()
	got := results(p)
	same(t, "Sigs of "+name, got.sigs, want.sigs)
	same(t, "Edges of "+name, got.edges, want.edges)
	same(t, "Components of "+name, got.components, want.components)
	same(t, "Recursive of "+name, got.recursive, want.recursive)
	same(t, "Domain of "+name, got.domain, want.domain)
}

func checkConds(t *testing.T, name string, p api.Prog, want api.Errno) {
	t.Helper()
	if got := depend.Conds(p); got != want {
		t.Errorf("Conds of %s: %d, want %d", name, got, want)
	}
}
