package derive_test

import (
	"math/rand/v2"
	"slices"
	"strings"
	"testing"

	"ostler/api"
	"ostler/arith"
	"ostler/derive"
	"ostler/join"
	"ostler/match"
	"ostler/store"
	"ostler/term"
)

// random produces sources of programs over few predicates and values.
type random struct{ *rand.Rand }

func newRandom(seed uint64) random { return random{rand.New(rand.NewPCG(seed, 0))} }

func (g random) flag(one int) bool { return g.IntN(one) == 0 }

func (g random) pick(names ...string) string { return names[g.IntN(len(names))] }

// some joins from least to most items.
func (g random) some(least, most int, separator string, item func() string) string {
	var l []string
	for range least + g.IntN(most-least+1) {
		l = append(l, item())
	}
	return strings.Join(l, separator)
}

func (g random) term() string {
	switch g.IntN(12) {
	case 0:
		return g.pick("X+1", "X-1", "2*X", "X-Y", "4/X", "1..X", "X..3", "1..2", "-X")
	case 1:
		return g.pick("a", "f(X)", "f(1)")
	case 2, 3:
		return g.pick("0", "1", "2", "3")
	}
	return g.pick("X", "X", "Y", "Z")
}

// from produces an atom with one of some predicates, whose names are followed by their arities.
func (g random) from(term func() string, preds ...string) string {
	p := g.pick(preds...)
	switch name, arity, _ := strings.Cut(p, "/"); arity {
	case "1":
		return name + "(" + term() + ")"
	case "2":
		return name + "(" + term() + "," + term() + ")"
	}
	return p
}

// atom produces an atom that may have any predicate.
func (g random) atom() string { return g.from(g.term, "d/1", "e/2", "p/1", "q/1", "r/2", "s", "t") }

// base produces an atom with a predicate that is usually one of the domain.
func (g random) base() string {
	if g.flag(80) {
		return g.atom()
	}
	return g.from(g.term, "d/1", "e/2", "c/1")
}

func (g random) comparison() string {
	return g.term() + " " + g.pick("=", "=", "!=", "<", "<=", ">", ">=") + " " + g.term()
}

func (g random) literal(atom func() string) string {
	switch g.IntN(6) {
	case 0:
		return g.comparison()
	case 1:
		return "not " + atom()
	}
	return atom()
}

func (g random) condition() string {
	return g.some(1, 2, ", ", func() string { return g.literal(g.base) })
}

func (g random) element() string {
	switch g.IntN(9) {
	case 0, 1:
		return g.literal(g.atom) + " : " + g.condition()
	case 2:
		return g.pick("", "not ") + g.pick("#count", "#sum") + " { " + g.term() + " : " + g.literal(g.atom) + "; 1 } " + g.pick("<", "=") + " " + g.term()
	}
	return g.literal(g.atom)
}

// body produces a body for a head, in which the variables of the rule are usually bound.
func (g random) body(head string) string {
	l := g.some(0, 2, "; ", g.element)
	for _, name := range strings.Split("XYZ", "") {
		if !strings.Contains(head+l, name) || g.flag(10) {
			continue
		}
		bind := g.pick("d(V)", "d(V)", "e(V,1..3)", "e(V,V)", "p(V)", "q(V)", "r(V,2)", "V = 1..2")
		bind = strings.ReplaceAll(bind, "V", name)
		switch {
		case l == "":
			l = bind
		case g.flag(2):
			l = bind + "; " + l
		default:
			l += "; " + bind
		}
	}
	return l
}

// simple produces a term that seldom has operations, which are without end in recursive heads.
func (g random) simple() string {
	if g.flag(10) {
		return g.term()
	}
	return g.pick("X", "X", "X", "Y", "1", "2", "X..2")
}

func (g random) head() string {
	derived := func() string {
		if g.flag(10) {
			return g.from(g.simple, "c/1", "d/1")
		}
		return g.from(g.simple, "p/1", "q/1", "r/2", "s", "t")
	}
	chosen := func() string {
		h := g.from(g.simple, "p/1", "q/1", "r/2", "s", "t")
		if g.flag(3) {
			return h
		}
		return h + " : " + g.condition()
	}
	switch g.IntN(8) {
	case 0, 1:
		return g.pick("", "", "", "1 ", "X ") + "{ " + g.some(1, 2, "; ", chosen) + " }" + g.pick("", "", "", " 2", " Y", " 1..2")
	case 2:
		return derived() + " | " + derived()
	}
	return derived()
}

func (g random) rule() string {
	head := g.head()
	body := g.body(head)
	switch {
	case g.flag(20):
		return ":~ " + body + ". [" + g.term() + "@" + g.term() + "," + g.term() + "]"
	case body == "":
		return head + "."
	case g.flag(20):
		head = ""
	}
	return head + " :- " + body + "."
}

func (g random) facts() string {
	return g.some(1, 5, " ", func() string {
		return g.pick("d(1..2).", "d(1..3).", "d(2).", "e(1,2).", "e(2,1..3).", "e(1..2,3).", "p(1).", "q(2).", "c(1).", "c(0).", "d(a).", "d(f(1)).", "e(f(a),2).", "r(1,1).", "s.")
	})
}

func (g random) program() string { return g.facts() + " " + g.some(1, 4, " ", g.rule) }

// checkReference compares the result of Derive with the one that the chapter defines, and returns it.
func checkReference(t *testing.T, name string, p api.Prog) (possible, certain *store.Store, e api.Errno) {
	t.Helper()
	possible, certain, e = derive.Derive(p)
	wantPossible, wantCertain, errno := referenceDerive(p)
	if e != errno || e != api.OK && (possible != nil || certain != nil) || e == api.OK && (!possible.Equal(wantPossible) || !certain.Equal(wantCertain)) {
		t.Errorf("%s: error %d, want %d", name, e, errno)
		if e == api.OK && errno == api.OK {
			t.Errorf("possible %s, want %s; certain %s, want %s", storeText(possible), storeText(wantPossible), storeText(certain), storeText(wantCertain))
		}
	}
	return possible, certain, e
}

// TestRandomPrograms compares results with the definitions of the chapter.
func TestRandomPrograms(t *testing.T) {
	g := newRandom(1)
	count := map[api.Errno]int{}
	open, definite := 0, 0
	for range 5000 {
		src := g.program()
		p := programOf(t, src)
		possible, certain, e := checkReference(t, src, p)
		if t.Failed() {
			t.FailNow()
		}
		count[e]++
		if e == api.OK && possible.Len() > certain.Len() {
			open++
		}
		if e == api.OK && certain.Len() > 7 {
			definite++
		}
		for _, r := range p.Rules {
			if derive.Safe(r) != referenceSafe(r) {
				t.Fatal(src)
			}
		}
	}
	if count[api.OK] < 1500 || open < 300 || definite < 150 || count[90] < 100 || count[100] < 100 || count[join.ErrUnsafe] < 100 {
		t.Error("the samples are one-sided", count, open, definite)
	}
}

// TestRandomErrors does the same for programs with heads and comparisons that are too deep, and too many of them, often in the same round.
func TestRandomErrors(t *testing.T) {
	g := newRandom(2)
	pieces := []string{"X = 1..1001", "Z = F11:YG11:", "q : X = 1..1001", "q : Z = F11:YG11:", "q : d(1)", "not q(2)", "not p(1)", "q(2)", "p(X) : d(X)", "p(1)", "not p : d(X)", "Y > 1", "e(X,Y,W)", "p(X)", "q(X)", "X = 1..300, Z = 1..300"}
	heads := []string{"p(X)", "q(X)", "p(X..W)", "p(F11:YG11:)", "q(F11:YG11:)", "{ p(X); q(X) : d(X) }", "{ p(X); z : Z = F11:YG11: }", "{ p(X); z : Z = 1..1001 }", "p(1..500,1..5)", "p(X,1..500)", "q(1..400,1..4)", "p(X) | q(X..W)"}
	count := map[api.Errno]int{}
	for range 150 {
		src := "d(1..2). p(0). q(1). e(0,1,1). e(0,f(1),1). e(1,f(1),2). e(1,1,1001)."
		for range 1 + g.IntN(4) {
			src += " " + g.pick(heads...) + " :- " + g.pick("e(X,Y,W)", "p(X), e(X,Y,W)", "q(X), e(X,Y,W)", "d(X), e(X,Y,W)") + "; " + g.some(0, 3, "; ", func() string { return g.pick(pieces...) }) + "."
		}
		src = strings.ReplaceAll(src, "; .", ".")
		_, _, e := checkReference(t, src, programOf(t, src))
		count[e]++
		if t.Failed() {
			t.FailNow()
		}
	}
	if count[api.ErrLong] < 30 || count[api.ErrMany] < 30 || count[api.OK] < 15 {
		t.Error("the samples are one-sided", count)
	}
}

// TestRandomElements compares Elements with the definition, in the order of the bindings, and counts the conclusions in another way.
func TestRandomElements(t *testing.T) {
	g := newRandom(3)
	count := map[api.Errno]int{}
	some := 0
	for range 10000 {
		cond, concl := g.some(0, 3, ", ", func() string { return g.literal(g.atom) }), g.some(0, 2, ", ", func() string { return g.literal(g.atom) })
		if g.flag(2) {
			cond = g.pick("d(X)", "e(X,Y)", "r(X,Y), d(Z)") + ", " + cond
		}
		l, c := litsOf(t, strings.TrimSuffix(cond, ", ")), litsOf(t, concl)
		s := store.New()
		for range 10 + g.IntN(20) {
			a := litsOf(t, g.from(func() string { return g.pick("0", "1", "2", "3", "a", "f(1)") }, "d/1", "e/2", "p/1", "q/1", "r/2", "s", "t"))[0]
			s.Add(a.Atom)
		}
		b := bindingOf(t, g.pick("", "", "X=1", "X=2 Y=1", "#1=3 #3=1 X=1", "Z=a", "Y=f(1)"))
		rows, e := derive.Elements(l, c, s, b)
		want, errno := referenceElements(l, c, s, b)
		count[e]++
		if e != errno || rowsText(rows) != rowsText(want) || len(rows) != len(want) {
			t.Fatalf("%s : %s with %v: error %d, %s, want %d, %s", concl, cond, b, e, rowsText(rows), errno, rowsText(want))
		}
		if e == api.OK {
			checkCount(t, l, c, s, b, rows)
		}
		if len(rows) > 1 && len(c) > 0 {
			some++
		}
	}
	if count[api.OK] < 2000 || count[join.ErrUnsafe] < 1000 || some < 400 {
		t.Error("the samples are one-sided", count, some)
	}
}

// checkCount checks how often each list of conclusions occurs: for each binding of the variables of the lists, every combination of expansions of the condition's atoms for which the positive ones are in the store and the negative ones are not counts, with every combination of expansions of the conclusions.
func checkCount(t *testing.T, cond, concl []api.Lit, s *store.Store, b api.Binding, rows [][]api.Lit) {
	t.Helper()
	bindings, _ := join.Join(referenceList(cond, concl), s, b)
	want := map[string]int{}
	for _, c := range bindings {
		ways := 1
		for _, l := range cond {
			if l.Kind == api.LitAtom {
				ways *= countAtoms(spreadTerms(l.Atom.Args, c), func(args []api.Term) bool { return s.Has(atom(l.Atom.Pred, args...)) != l.Not })
			}
		}
		lists := [][]api.Lit{nil}
		for _, l := range concl {
			lists = lengthen(lists, l, c)
		}
		for _, l := range lists {
			want[litsText(l)] += ways
		}
	}
	for _, l := range rows {
		want[litsText(l)]--
	}
	for l, n := range want {
		if n != 0 {
			t.Fatalf("%s : %s: %s is returned %d times too seldom", litsText(concl), litsText(cond), l, n)
		}
	}
}

func countAtoms(lists [][]api.Term, test func([]api.Term) bool) int {
	return len(slices.DeleteFunc(lists, func(args []api.Term) bool { return !test(args) }))
}

// lengthen appends each combination of expansions of a literal to each of some lists.
func lengthen(lists [][]api.Lit, l api.Lit, b api.Binding) [][]api.Lit {
	terms := l.Atom.Args
	if l.Kind == api.LitComp {
		terms = []api.Term{l.L, l.R}
	}
	var longer [][]api.Lit
	for _, list := range lists {
		for _, args := range spreadTerms(terms, b) {
			if l.Kind == api.LitComp {
				l.L, l.R = args[0], args[1]
			} else {
				l.Atom.Args = args
			}
			longer = append(longer, append(slices.Clip(list), l))
		}
	}
	return longer
}

// spreadTerms returns all combinations of the expansions of terms under a binding of variables with ordinary names.
func spreadTerms(terms []api.Term, b api.Binding) [][]api.Term {
	b = slices.DeleteFunc(slices.Clone(b), func(x api.Bind) bool { return !term.Variable(x.Name) })
	lists := [][]api.Term{nil}
	for _, t := range terms {
		values, _ := arith.Expand(match.Apply(t, b))
		var longer [][]api.Term
		for _, l := range lists {
			for _, v := range values {
				longer = append(longer, append(slices.Clip(l), v))
			}
		}
		lists = longer
	}
	return lists
}
