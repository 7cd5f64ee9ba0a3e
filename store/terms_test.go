package store_test

import (
	"slices"
	"strings"
	"testing"

	"ostler/api"
	"ostler/parse"
	"ostler/store"
	"ostler/term"
)

// The functions of this file produce terms, atoms and stores, and their texts.

func number(n int) api.Term { return api.Term{Kind: api.TermInt, Num: n} }

func symbol(name string) api.Term { return api.Term{Kind: api.TermSym, Name: name} }

func variable(name string) api.Term { return api.Term{Kind: api.TermVar, Name: name} }

func function(name string, args ...api.Term) api.Term {
	return api.Term{Kind: api.TermFun, Name: name, Args: args}
}

func operation(name string, args ...api.Term) api.Term {
	return api.Term{Kind: api.TermOp, Name: name, Args: args}
}

func interval(args ...api.Term) api.Term { return api.Term{Kind: api.TermRange, Args: args} }

func atom(pred string, args ...api.Term) api.Atom { return api.Atom{Pred: pred, Args: args} }

func sig(name string, arity int) api.Sig { return api.Sig{Name: name, Arity: arity} }

// tower returns a term that encloses another one so that, if that has depth 1, the result has the given depth.
func tower(depth int, inner api.Term) api.Term {
	t := inner
	for range depth - 1 {
		t = function("f", t)
	}
	return t
}

func ones(count int) []api.Term { return slices.Repeat([]api.Term{number(1)}, count) }

// atomOf parses an atom that must not have errors.
func atomOf(t *testing.T, src string) api.Atom {
	t.Helper()
	r, at, e := parse.Rule(src + ".")
	if e != api.OK || len(r.Heads) != 1 {
		t.Fatalf("%q: error %d at %d", src, e, at)
	}
	return r.Heads[0].Atom
}

// atomsOf parses atoms that are separated by spaces.
func atomsOf(t *testing.T, src string) []api.Atom {
	t.Helper()
	var l []api.Atom
	for part := range strings.FieldsSeq(src) {
		l = append(l, atomOf(t, part))
	}
	return l
}

// textOf returns the text that atomsOf parses.
func textOf(l ...api.Atom) string {
	var texts []string
	for _, a := range l {
		var args []string
		for _, v := range a.Args {
			args = append(args, term.String(v))
		}
		if len(args) == 0 {
			texts = append(texts, a.Pred)
		} else {
			texts = append(texts, a.Pred+"("+strings.Join(args, ",")+")")
		}
	}
	return strings.Join(texts, " ")
}

// storeOf returns a store to which atoms were added, each of which must be new.
func storeOf(t *testing.T, l ...api.Atom) *store.Store {
	t.Helper()
	s := store.New()
	for _, a := range l {
		checkAdd(t, s, a, true, api.OK)
	}
	return s
}

func storeOfText(t *testing.T, src string) *store.Store {
	t.Helper()
	return storeOf(t, atomsOf(t, src)...)
}

func checkAdd(t *testing.T, s *store.Store, a api.Atom, isNew bool, want api.Errno) {
	t.Helper()
	if got, e := s.Add(a); got != isNew || e != want {
		t.Errorf("adding %.300q: %v and error %d, want %v and %d", textOf(a), got, e, isNew, want)
	}
}

func checkText(t *testing.T, name string, got []api.Atom, want string) {
	t.Helper()
	if textOf(got...) != want {
		t.Errorf("%s: %.300s, want %.300s", name, textOf(got...), want)
	}
}

// numbered returns the given number of distinct atoms.
func numbered(count int) []api.Atom {
	var l []api.Atom
	for i := range count {
		l = append(l, atom("p", number(i)))
	}
	return l
}

// invalidTerms returns terms that are not valid.
func invalidTerms() []api.Term {
	one := number(1)
	return []api.Term{
		{}, {Num: 1}, {Kind: 7}, {Kind: 255}, number(api.MaxInt + 1), number(-api.MaxInt - 1), {Kind: api.TermInt, Num: 1, Name: "a"}, {Kind: api.TermInt, Num: 1, Args: ones(1)},
		symbol(""), symbol("X"), symbol("not"), symbol("a,b"), symbol("f(1)"), symbol("1"), symbol(strings.Repeat("a", 33)), {Kind: api.TermSym, Name: "a", Num: 1}, {Kind: api.TermSym, Name: "a", Args: ones(1)}, variable(""), variable("a"), {Kind: api.TermVar, Name: "X", Num: 1},
		function("f"), function("F", one), function("", one), function("not", one), function("f", ones(9)...), function("f", api.Term{}), function("f", one, symbol("not")), {Kind: api.TermFun, Name: "f", Num: 1, Args: ones(1)}, tower(13, one), tower(1<<16, one),
		operation("+", one), operation("%", one, one), interval(one), {Kind: api.TermRange, Name: "a", Args: ones(2)},
	}
}

// notValues returns valid terms that are not values.
func notValues() []api.Term {
	one := number(1)
	sum, minus := operation("+", one, one), operation("-", one)
	return []api.Term{variable("X"), variable("_"), variable("_1"), sum, minus, operation("-", operation("-", one)), interval(one, one), interval(one, number(2)), function("f", variable("Z")), function("f", one, sum), function("f", minus), function("f", function("g", interval(one, one)))}
}

// notGround returns atoms that are not ground atoms, some of which have the text of one.
func notGround() []api.Atom {
	one := number(1)
	var l []api.Atom
	for _, pred := range []string{"", "P", "_P", "_", "_1", "1", "not", "-p", "p ", " p", "p\x00", "p\n", "é", "p(1)", "p(1", "p(", "p(1,a)", "p,q", strings.Repeat("p", 33), strings.Repeat("p", 1<<20)} {
		l = append(l, atom(pred), atom(pred, one), atom(pred, one, symbol("a")))
	}
	l = append(l, atom("p", ones(9)...), atom("p", ones(1<<16)...))
	for _, v := range append(invalidTerms(), notValues()...) {
		l = append(l, atom("p", v), atom("p", v, one), atom("p", one, v), atom("p", append(ones(7), v)...))
	}
	return l
}

// notStores returns objects that are not stores, by their names. Those that were copied as structs are copies of a store that contains the given atoms.
func notStores(t *testing.T, l ...api.Atom) map[string]*store.Store {
	t.Helper()
	value := *storeOf(t, l...)
	second := value
	overwritten := storeOf(t, l...)
	*overwritten = value
	erased := storeOf(t, l...)
	*erased = store.Store{}
	return map[string]*store.Store{
		"a nil pointer": nil, "a zero value": {}, "a new value": new(store.Store),
		"a copied value": &value, "a value copied twice": &second, "an overwritten value": overwritten, "an erased value": erased,
	}
}
