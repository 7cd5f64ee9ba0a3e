package join_test

import (
	"regexp"
	"slices"
	"strings"
	"testing"

	"ostler/api"
	"ostler/format"
	"ostler/join"
	"ostler/parse"
	"ostler/store"
	"ostler/term"
)

// The functions of this file produce and compare terms, literals, stores and bindings.

func number(n int) api.Term { return api.Term{Kind: api.TermInt, Num: n} }

func symbol(name string) api.Term { return api.Term{Kind: api.TermSym, Name: name} }

func variable(name string) api.Term { return api.Term{Kind: api.TermVar, Name: name} }

func function(name string, args ...api.Term) api.Term {
	return api.Term{Kind: api.TermFun, Name: name, Args: args}
}

func operation(name string, args ...api.Term) api.Term {
	return api.Term{Kind: api.TermOp, Name: name, Args: args}
}

func interval(args ...api.Term) api.Term { return api.Term{Kind: api.TermRange, Args: args} }

func atom(pred string, args ...api.Term) api.Atom { return api.Atom{Pred: pred, Args: args} }

func positive(pred string, args ...api.Term) api.Lit {
	return api.Lit{Kind: api.LitAtom, Atom: atom(pred, args...)}
}

func negative(pred string, args ...api.Term) api.Lit {
	return api.Lit{Kind: api.LitAtom, Not: true, Atom: atom(pred, args...)}
}

func comparison(l api.Term, op uint8, r api.Term) api.Lit {
	return api.Lit{Kind: api.LitComp, L: l, Op: op, R: r}
}

func pair(name string, v api.Term) api.Bind { return api.Bind{Name: name, Val: v} }

// tower returns a term that encloses another one so that, if that has depth 1, the result has the given depth.
func tower(depth int, inner api.Term) api.Term {
	t := inner
	for range depth - 1 {
		t = function("f", t)
	}
	return t
}

func ones(count int) []api.Term { return slices.Repeat([]api.Term{number(1)}, count) }

// rename replaces the names of variables that begin with a prefix in all terms of a list.
func rename(l []api.Lit, from, to string) []api.Lit {
	l = slices.Clone(l)
	for i, x := range l {
		l[i].L, l[i].R = renameTerm(x.L, from, to), renameTerm(x.R, from, to)
		l[i].Atom.Args = renameTerm(api.Term{Args: x.Atom.Args}, from, to).Args
	}
	return l
}

func renameTerm(t api.Term, from, to string) api.Term {
	if rest, found := strings.CutPrefix(t.Name, from); found && t.Kind == api.TermVar {
		t.Name = to + rest
	}
	t.Args = slices.Clone(t.Args)
	for i, a := range t.Args {
		t.Args[i] = renameTerm(a, from, to)
	}
	return t
}

// hash is the beginning of a name that stands for one that begins with # in the sources and texts of the tests: H_1 is #1.
const hash = "H_"

// litsOf parses a body of literals that must not have errors.
func litsOf(t testing.TB, src string) []api.Lit {
	t.Helper()
	if src == "" {
		return nil
	}
	r, at, e := parse.Rule(":- " + src + ".")
	if e != api.OK {
		t.Fatalf("%q: error %d at %d", src, e, at)
	}
	var l []api.Lit
	for _, b := range r.Body {
		if b.Kind != api.BodyLit {
			t.Fatalf("%q: not a literal", src)
		}
		l = append(l, b.Lit)
	}
	return rename(l, hash, "#")
}

// litsText returns the text that litsOf parses.
func litsText(l []api.Lit) string {
	var texts []string
	for _, x := range rename(l, "#", hash) {
		text, e := format.Lit(x)
		if e != api.OK {
			text = "?"
		}
		texts = append(texts, text)
	}
	return strings.Join(texts, ", ")
}

// termOf parses a term that must not have errors.
func termOf(t testing.TB, src string) api.Term {
	t.Helper()
	x, at, e := parse.Term(src)
	if e != api.OK {
		t.Fatalf("%q: error %d at %d", src, e, at)
	}
	return x
}

// atomsOf parses facts that are separated by spaces, whose arguments may be intervals.
func atomsOf(t testing.TB, src string) []api.Atom {
	t.Helper()
	var l []api.Atom
	for fact := range strings.FieldsSeq(src) {
		for _, x := range litsOf(t, fact) {
			l = append(l, instances(x.Atom)...)
		}
	}
	return l
}

// instances returns the atoms that result from replacing each argument that is an interval between integers by one of its integers.
func instances(a api.Atom) []api.Atom {
	i := slices.IndexFunc(a.Args, func(t api.Term) bool { return t.Kind == api.TermRange })
	if i < 0 {
		return []api.Atom{a}
	}
	var l []api.Atom
	for n := a.Args[i].Args[0].Num; n <= a.Args[i].Args[1].Num; n++ {
		b := atom(a.Pred, slices.Clone(a.Args)...)
		b.Args[i] = number(n)
		l = append(l, instances(b)...)
	}
	return l
}

// storeOf returns a store to which atoms were added.
func storeOf(t testing.TB, l ...api.Atom) *store.Store {
	t.Helper()
	s := store.New()
	for _, a := range l {
		if _, e := s.Add(a); e != api.OK {
			t.Fatalf("%s: error %d", a.Pred, e)
		}
	}
	return s
}

func storeOfText(t testing.TB, src string) *store.Store {
	t.Helper()
	return storeOf(t, atomsOf(t, src)...)
}

// bindingOf parses pairs like X=1, separated by spaces, in which the names may be any texts.
func bindingOf(t testing.TB, src string) api.Binding {
	t.Helper()
	var b api.Binding
	for _, x := range strings.Fields(src) {
		name, value, _ := strings.Cut(x, "=")
		b = append(b, pair(name, termOf(t, value)))
	}
	return b
}

// bindingText returns the text that bindingOf parses.
func bindingText(b api.Binding) string {
	var l []string
	for _, x := range b {
		l = append(l, x.Name+"="+term.String(x.Val))
	}
	return strings.Join(l, " ")
}

// bindingsText returns the texts of bindings, separated by bars.
func bindingsText(l []api.Binding) string {
	var texts []string
	for _, b := range l {
		texts = append(texts, bindingText(b))
	}
	return strings.Join(texts, " | ")
}

// texts returns the texts of bindings.
func texts(l []api.Binding) []string {
	var texts []string
	for _, b := range l {
		texts = append(texts, bindingText(b))
	}
	return texts
}

// short returns the beginning of a long text.
func short(s string) string { return regexp.MustCompile(`(?s)^(.{300}).*`).ReplaceAllString(s, "$1..") }

// checkJoin compares the result of Join with bindings and an error.
func checkJoin(t *testing.T, l []api.Lit, s *store.Store, b api.Binding, want string, errno api.Errno) {
	t.Helper()
	got, e := join.Join(l, s, b)
	if e != errno || bindingsText(got) != want || e != api.OK && len(got) > 0 {
		t.Errorf("%s with %s: %q and error %d, want %q and %d", short(litsText(l)), short(bindingText(b)), short(bindingsText(got)), e, short(want), errno)
	}
}

// invalidTerms returns terms that are not valid.
func invalidTerms() []api.Term {
	one := number(1)
	return []api.Term{
		{}, {Num: 1}, {Kind: 7}, {Kind: 255}, number(api.MaxInt + 1), number(-api.MaxInt - 1), {Kind: api.TermInt, Num: 1, Name: "a"}, {Kind: api.TermInt, Num: 1, Args: ones(1)},
		symbol(""), symbol("X"), symbol("not"), symbol("#1"), symbol("#a"), symbol(strings.Repeat("a", 33)), {Kind: api.TermSym, Name: "a", Num: 1}, {Kind: api.TermSym, Name: "a", Args: ones(1)},
		variable(""), variable("a"), variable("X#"), variable(" #1"), variable("X" + strings.Repeat("x", 32)), {Kind: api.TermVar, Name: "X", Num: 1}, {Kind: api.TermVar, Name: "#1", Num: 1}, {Kind: api.TermVar, Name: "#1", Args: ones(1)},
		function("f"), function("F", one), function("", one), function("not", one), function("#1", one), function("f", ones(9)...), function("f", api.Term{}), function("f", variable("#1"), symbol("not")), {Kind: api.TermFun, Name: "f", Num: 1, Args: ones(1)}, tower(13, one), tower(13, variable("#1")), tower(1<<16, one),
		operation("+", one), operation("%", one, one), operation("#1", one, one), interval(one), {Kind: api.TermRange, Name: "#1", Args: ones(2)}, operation("+", one, symbol("")),
	}
}

// notValues returns valid terms that are not values.
func notValues() []api.Term {
	one := number(1)
	return []api.Term{variable("X"), variable("_"), variable("#1"), operation("+", one, one), operation("-", one), interval(one, one), function("f", variable("Z")), function("f", one, operation("-", one)), function("f", function("g", interval(one, one)))}
}
