package derive_test

import (
	"slices"
	"strings"
	"testing"

	"ostler/api"
	"ostler/derive"
	"ostler/parse"
	"ostler/store"
	"ostler/term"
)

// The functions of this file produce and compare terms, literals, rules, programs, stores and bindings.

func number(n int) api.Term { return api.Term{Kind: api.TermInt, Num: n} }

func variable(name string) api.Term { return api.Term{Kind: api.TermVar, Name: name} }

func function(name string, args ...api.Term) api.Term {
	return api.Term{Kind: api.TermFun, Name: name, Args: args}
}

func ones(count int) []api.Term { return slices.Repeat([]api.Term{number(1)}, count) }

func atom(pred string, args ...api.Term) api.Atom { return api.Atom{Pred: pred, Args: args} }

func positive(pred string, args ...api.Term) api.Lit {
	return api.Lit{Kind: api.LitAtom, Atom: atom(pred, args...)}
}

func comparison(l api.Term, op uint8, r api.Term) api.Lit {
	return api.Lit{Kind: api.LitComp, L: l, Op: op, R: r}
}

// tower encloses a term in so many function terms.
func tower(height int, inner api.Term) api.Term {
	for range height {
		inner = function("f", inner)
	}
	return inner
}

// hash is the beginning of a name that stands for one that begins with # in the sources and texts of the tests: H_1 is #1.
const hash = "H_"

// towers replaces F followed by a decimal number of one digit or two, and a colon, by so many openings of function terms, which G and a colon close.
func towers(src string) string {
	for n := 15; n > 0; n-- {
		digits := string(rune('0' + n%10))
		if n > 9 {
			digits = "1" + digits
		}
		src = strings.ReplaceAll(src, "F"+digits+":", strings.Repeat("f(", n))
		src = strings.ReplaceAll(src, "G"+digits+":", strings.Repeat(")", n))
	}
	return src
}

// programOf parses a program that must not have errors.
func programOf(t testing.TB, src string) api.Prog {
	t.Helper()
	p, at, e := parse.Parse(towers(src))
	if e != api.OK {
		t.Fatalf("%q: error %d at %d", src, e, at)
	}
	for i := range p.Rules {
		renameRule(&p.Rules[i], hash, "#")
	}
	return p
}

// ruleOf parses a rule that must not have errors.
func ruleOf(t testing.TB, src string) api.Rule {
	t.Helper()
	return programOf(t, src).Rules[0]
}

// litsOf parses literals.
func litsOf(t testing.TB, src string) []api.Lit {
	t.Helper()
	if src == "" {
		return nil
	}
	var l []api.Lit
	for _, b := range ruleOf(t, ":- "+src+".").Body {
		l = append(l, b.Lit)
	}
	return l
}

func renameRule(r *api.Rule, from, to string) {
	for i := range r.Heads {
		renameLit(&api.Lit{Atom: r.Heads[i].Atom}, from, to)
		renameLits(r.Heads[i].Cond, from, to)
	}
	for i := range r.Body {
		b := &r.Body[i]
		renameLit(&b.Lit, from, to)
		renameLits(b.Cond, from, to)
		for _, e := range b.Elems {
			renameTerms(e.Tuple, from, to)
			renameLits(e.Cond, from, to)
		}
		b.Bound = renamed(b.Bound, from, to)
	}
	r.Lower, r.Upper, r.Weight, r.Level = renamed(r.Lower, from, to), renamed(r.Upper, from, to), renamed(r.Weight, from, to), renamed(r.Level, from, to)
	renameTerms(r.Tuple, from, to)
}

func renameLits(l []api.Lit, from, to string) {
	for i := range l {
		renameLit(&l[i], from, to)
	}
}

func renameLit(l *api.Lit, from, to string) {
	renameTerms(l.Atom.Args, from, to)
	l.L, l.R = renamed(l.L, from, to), renamed(l.R, from, to)
}

func renameTerms(l []api.Term, from, to string) {
	for i := range l {
		l[i] = renamed(l[i], from, to)
	}
}

// renamed returns a term in which the names of variables that begin with a prefix have another one.
func renamed(t api.Term, from, to string) api.Term {
	if rest, found := strings.CutPrefix(t.Name, from); found && t.Kind == api.TermVar {
		t.Name = to + rest
	}
	t.Args = slices.Clone(t.Args)
	renameTerms(t.Args, from, to)
	return t
}

// termText returns the text of a term, in which names that begin with # are replaced and terms that are too deep are accepted.
func termText(t api.Term) string {
	if t.Kind == api.TermFun {
		return t.Name + "(" + listText(t.Args, ",", termText) + ")"
	}
	return term.String(renamed(t, "#", hash))
}

func listText[T any](l []T, separator string, text func(T) string) string {
	var texts []string
	for _, x := range l {
		texts = append(texts, text(x))
	}
	return strings.Join(texts, separator)
}

func atomText(a api.Atom) string {
	if len(a.Args) == 0 {
		return a.Pred
	}
	return a.Pred + "(" + listText(a.Args, ",", termText) + ")"
}

func litText(l api.Lit) string {
	switch {
	case l.Kind == api.LitComp:
		return termText(l.L) + strings.Fields("? = != < <= > >=")[l.Op] + termText(l.R)
	case l.Not:
		return "not " + atomText(l.Atom)
	}
	return atomText(l.Atom)
}

// litsText returns the text of literals, without blanks around operators.
func litsText(l []api.Lit) string { return listText(l, ", ", litText) }

// rowsText returns the texts of lists of literals.
func rowsText(rows [][]api.Lit) string { return listText(rows, " | ", litsText) }

// storeText returns the texts of the atoms of a store, in order.
func storeText(s *store.Store) string { return listText(s.Sorted(), " ", atomText) }

// storeOf returns a store with facts, whose arguments may be intervals.
func storeOf(t testing.TB, src string) *store.Store {
	t.Helper()
	s := store.New()
	for fact := range strings.FieldsSeq(src) {
		for _, x := range litsOf(t, fact) {
			for _, a := range spread(x.Atom) {
				if _, e := s.Add(a); e != api.OK {
					t.Fatalf("%s: error %d", fact, e)
				}
			}
		}
	}
	return s
}

// spread returns the atoms that result from replacing each argument that is an interval between integers by one of its integers.
func spread(a api.Atom) []api.Atom {
	i := slices.IndexFunc(a.Args, func(t api.Term) bool { return t.Kind == api.TermRange })
	if i < 0 {
		return []api.Atom{a}
	}
	var l []api.Atom
	for n := a.Args[i].Args[0].Num; n <= a.Args[i].Args[1].Num; n++ {
		b := atom(a.Pred, slices.Clone(a.Args)...)
		b.Args[i] = number(n)
		l = append(l, spread(b)...)
	}
	return l
}

// bindingOf parses pairs like X=1, separated by spaces, in which the names may be any texts.
func bindingOf(t testing.TB, src string) api.Binding {
	t.Helper()
	var b api.Binding
	for x := range strings.FieldsSeq(src) {
		name, value, _ := strings.Cut(x, "=")
		v, _, e := parse.Term(towers(value))
		if e != api.OK {
			t.Fatalf("%q: error %d", x, e)
		}
		b = append(b, api.Bind{Name: name, Val: v})
	}
	return b
}

// notStores returns objects that are not stores.
func notStores() []*store.Store {
	s := store.New()
	s.Add(atom("p", number(1)))
	value := *s
	return []*store.Store{nil, {}, &value}
}

// short returns the beginning of a long text.
func short(s string) string {
	if len(s) > 300 {
		return s[:300] + ".."
	}
	return s
}

// checkDerive compares the result of Derive with the texts of two stores: that of the certain atoms, and that of the other possible ones.
func checkDerive(t *testing.T, src, certain, others string) {
	t.Helper()
	possible, sure, e := derive.Derive(programOf(t, src))
	if e != api.OK {
		t.Errorf("%s: error %d", short(src), e)
		return
	}
	all := storeOf(t, certain+" "+others)
	if !sure.Equal(storeOf(t, certain)) || !possible.Equal(all) {
		t.Errorf("%s: certain %s, want %s; possible %s, want %s", short(src), short(storeText(sure)), short(certain), short(storeText(possible)), short(storeText(all)))
	}
}

// checkError checks that Derive returns an error and nothing else.
func checkError(t *testing.T, src string, want api.Errno) {
	t.Helper()
	checkRefused(t, src, programOf(t, src), want)
}

func checkRefused(t *testing.T, name string, p api.Prog, want api.Errno) {
	t.Helper()
	if possible, certain, e := derive.Derive(p); e != want || possible != nil || certain != nil {
		t.Errorf("%s: error %d, want %d; %v %v", short(name), e, want, possible != nil, certain != nil)
	}
}
