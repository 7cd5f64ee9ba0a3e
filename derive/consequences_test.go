package derive_test

import (
	"slices"
	"strings"
	"testing"

	"ostler/api"
	"ostler/depend"
	"ostler/derive"
	"ostler/join"
	"ostler/match"
	"ostler/safety"
	"ostler/store"
	"ostler/term"
)

// P13.4

// TestConsequences checks what holds for the two sets of atoms of every program.
func TestConsequences(t *testing.T) {
	g := newRandom(5)
	domains, derived := 0, 0
	for range 4000 {
		src := g.program()
		p := programOf(t, src)
		possible, certain, e := derive.Derive(p)
		if e != api.OK {
			continue
		}
		known := depend.Domain(p)
		for _, a := range certain.Sorted() {
			if !possible.Has(a) {
				t.Fatal(src, atomText(a))
			}
		}
		for _, a := range possible.Sorted() {
			if slices.Contains(known, depend.Of(a)) {
				domains++
				if !certain.Has(a) {
					t.Fatal(src, atomText(a))
				}
			}
		}
		checkSupport(t, src, p, possible, certain)
		derived += possible.Len()
	}
	if domains < 1500 || derived < domains+1500 {
		t.Error("the samples are one-sided", domains, derived)
	}
}

// checkSupport checks that the possible atoms are just the heads of possible instances over them, and the certain atoms those of certain instances.
func checkSupport(t *testing.T, src string, p api.Prog, possible, certain *store.Store) {
	t.Helper()
	x := &reference{possible: possible, certain: certain, components: depend.Components(p)}
	heads, sure := store.New(), store.New()
	for x.current = range x.components {
		x.newPossible, x.newCertain = nil, nil
		for _, r := range p.Rules {
			if r.Kind != api.RuleWeak {
				x.evaluate(r)
			}
		}
		for _, a := range x.newPossible {
			heads.Add(a)
		}
		for _, a := range x.newCertain {
			if x.isMember(a) {
				sure.Add(a)
			}
		}
	}
	if !heads.Equal(possible) || !sure.Equal(certain) {
		t.Fatalf("%s: possible %s, heads %s; certain %s, heads %s", src, storeText(possible), storeText(heads), storeText(certain), storeText(sure))
	}
}

// A set of atoms is a number with a bit for each of the few atoms that there are.

// part is a part of a ground body. It reports whether it holds for a set of atoms, with what a larger set, by which the reduct is formed, makes of its negations and conditions.
type part func(whole, set uint) bool

type groundRule struct {
	heads  uint
	choice bool
	least  int
	most   int
	body   []part
}

// holds reports whether a set satisfies the reduct of a rule by a larger set.
func (r groundRule) holds(whole, set uint) bool {
	for _, x := range r.body {
		if !x(whole, whole) || !x(whole, set) {
			return true
		}
	}
	if r.choice {
		return r.heads&whole&^set == 0
	}
	return r.heads&set != 0
}

// inBounds reports whether a set satisfies the bounds of a choice whose body holds.
func (r groundRule) inBounds(whole uint) bool {
	if slices.ContainsFunc(r.body, func(x part) bool { return !x(whole, whole) }) {
		return true
	}
	count := 0
	for rest := r.heads & whole; rest != 0; rest &= rest - 1 {
		count++
	}
	return !r.choice || r.least <= count && count <= r.most
}

func fits(rules []groundRule, whole, set uint) bool {
	return !slices.ContainsFunc(rules, func(r groundRule) bool { return !r.holds(whole, set) })
}

// isAnswer reports whether a set is a stable model.
func isAnswer(rules []groundRule, whole uint) bool {
	if !fits(rules, whole, whole) || slices.ContainsFunc(rules, func(r groundRule) bool { return !r.inBounds(whole) }) {
		return false
	}
	for set := whole; set != 0; {
		set = (set - 1) & whole
		if fits(rules, whole, set) {
			return false
		}
	}
	return true
}

// grounder numbers atoms by their texts. The variables of its programs stand for 1 and 2.
type grounder map[string]uint

func (g grounder) bit(a api.Atom) uint {
	text := atomText(a)
	if _, found := g[text]; !found {
		number := uint(len(g))
		g[text] = number
	}
	return 1 << g[text]
}

// values returns all bindings of variables.
func values(names []string) []api.Binding {
	l := []api.Binding{nil}
	for _, name := range names {
		var longer []api.Binding
		for _, b := range l {
			for n := 1; n <= 2; n++ {
				c, _ := match.Bind(b, name, number(n))
				longer = append(longer, c)
			}
		}
		l = longer
	}
	return l
}

func (g grounder) literal(l api.Lit) part {
	if l.Kind == api.LitComp {
		holds := join.Order(l.Op, l.L, l.R)
		return func(_, _ uint) bool { return holds }
	}
	bit := g.bit(l.Atom)
	if l.Not {
		return func(whole, _ uint) bool { return whole&bit == 0 }
	}
	return func(_, set uint) bool { return set&bit != 0 }
}

func (g grounder) all(l []api.Lit, b api.Binding) part {
	var parts []part
	for _, x := range l {
		parts = append(parts, g.literal(match.ApplyLit(x, b)))
	}
	return func(whole, set uint) bool {
		return !slices.ContainsFunc(parts, func(p part) bool { return !p(whole, set) })
	}
}

// extend returns the extensions of a binding by values of the other variables of literals and terms.
func extend(b api.Binding, l []api.Lit, terms ...api.Term) []api.Binding {
	for _, x := range l {
		terms = append(append(slices.Clip(terms), x.Atom.Args...), x.L, x.R)
	}
	var extensions []api.Binding
	for _, more := range values(slices.DeleteFunc(term.Vars(api.Term{Args: terms}), func(name string) bool {
		_, found := match.Get(b, name)
		return found
	})) {
		for _, x := range b {
			more, _ = match.Bind(more, x.Name, x.Val)
		}
		extensions = append(extensions, more)
	}
	return extensions
}

func (g grounder) body(x api.Body, b api.Binding) part {
	switch x.Kind {
	case api.BodyLit:
		return g.all([]api.Lit{x.Lit}, b)
	case api.BodyCond:
		var parts []part
		for _, c := range extend(b, append(slices.Clip(x.Cond), x.Lit)) {
			cond, concl := g.all(x.Cond, c), g.all([]api.Lit{x.Lit}, c)
			parts = append(parts, func(whole, set uint) bool { return !cond(whole, whole) || concl(whole, set) })
		}
		return func(whole, set uint) bool {
			return !slices.ContainsFunc(parts, func(p part) bool { return !p(whole, set) })
		}
	}
	return g.count(x, b)
}

// count returns an aggregate that counts tuples.
func (g grounder) count(x api.Body, b api.Binding) part {
	tuples := map[string][]part{}
	for _, e := range x.Elems {
		for _, c := range extend(b, e.Cond, e.Tuple...) {
			text := termText(match.Apply(function("t", e.Tuple...), c))
			tuples[text] = append(tuples[text], g.all(e.Cond, c))
		}
	}
	bound := match.Apply(x.Bound, b)
	return func(whole, set uint) bool {
		count := 0
		for _, parts := range tuples {
			if slices.ContainsFunc(parts, func(p part) bool { return p(whole, set) }) {
				count++
			}
		}
		return join.Order(x.Op, number(count), bound) != x.Not
	}
}

// rules returns the instances of a rule. The conditions of the heads of a choice have the predicates of facts only.
func (g grounder) rules(r api.Rule, facts func(part) bool) []groundRule {
	var l []groundRule
	for _, b := range values(safety.Global(r)) {
		x := groundRule{choice: r.Kind == api.RuleChoice, least: r.Lower.Num, most: r.Upper.Num}
		if r.Upper.Kind == 0 {
			x.most = 99
		}
		for _, h := range r.Heads {
			for _, c := range extend(b, append(slices.Clip(h.Cond), positiveOf(h.Atom))) {
				if facts(g.all(h.Cond, c)) {
					x.heads |= g.bit(match.ApplyAtom(h.Atom, c))
				}
			}
		}
		for _, e := range r.Body {
			x.body = append(x.body, g.body(e, b))
		}
		l = append(l, x)
	}
	return l
}

// answers returns the stable models of a program, and the bits of its atoms.
func answers(p api.Prog) ([]uint, grounder) {
	g := grounder{}
	fact := g.bit(atom("d", number(1))) | g.bit(atom("d", number(2))) | g.bit(atom("c", number(1)))
	var rules []groundRule
	for _, r := range p.Rules {
		rules = append(rules, g.rules(r, func(x part) bool { return x(fact, fact) })...)
	}
	var l []uint
	for set := range uint(1) << len(g) {
		if set&fact == fact && isAnswer(rules, set) {
			l = append(l, set)
		}
	}
	return l, g
}

// small produces a program whose only values are 1 and 2.
func (g random) small() string {
	atom := func() string { return g.pick("p(X)", "p(X)", "p(Y)", "q(X)", "q(1)", "q(2)", "s", "t") }
	cond := func() string {
		return g.pick("d(V)", "d(V)", "c(V)", "d(V), not c(V)", "d(V), V != X", "d(V), V < X", "c(1)", "not c(1)")
	}
	literal := func(atom func() string) string {
		return g.pick("", "", "not ") + atom()
	}
	element := func() string {
		switch g.IntN(8) {
		case 0, 1:
			return literal(func() string { return g.pick("p(V)", "q(V)", "s", "p(X)") }) + " : d(V), " + cond()
		case 2:
			return g.pick("", "not ") + "#count { V : " + literal(func() string { return g.pick("p(V)", "q(V)") }) + ", d(V); 3 : " + literal(atom) + " } " + g.pick("<", "=", ">=") + " " + g.pick("1", "2")
		case 3:
			return g.pick("X < 2", "X != Y", "X = Y", "c(X)", "not c(Y)")
		}
		return literal(atom)
	}
	rule := func() string {
		head := g.pick("p(X)", "p(1)", "q(X)", "q(Y)", "s", "t", "p(X) | q(X)", "s | t", "q(1) | s", "{ p(X); q(Y) }", "{ p(V) : d(V), "+cond()+" }", "{ s } ", "1 { s; t } 1", "1 { q(V) : d(V) } ", "")
		body := g.some(1, 3, "; ", element)
		for _, name := range []string{"X", "Y"} {
			if strings.Contains(head+body, name) {
				body = "d(" + name + "); " + body
			}
		}
		return head + " :- " + body + "."
	}
	return "d(1). d(2). c(1). " + g.some(1, 6, " ", rule)
}

// TestAnswers compares both sets with all answers.
func TestAnswers(t *testing.T) {
	g := newRandom(6)
	accepted, several, narrow := 0, 0, 0
	for range 2000 {
		src := g.small()
		p := programOf(t, src)
		possible, certain, e := derive.Derive(p)
		if e != api.OK {
			continue
		}
		accepted++
		all, numbers := answers(p)
		least, most := ^uint(0), uint(0)
		for _, set := range all {
			least, most = least&set, most|set
		}
		for text, n := range numbers {
			a := litsOf(t, text)[0].Atom
			if most>>n&1 == 1 && !possible.Has(a) || least>>n&1 == 0 && certain.Has(a) {
				t.Fatalf("%s: %s in %b; possible %v, certain %v", src, text, all, possible.Has(a), certain.Has(a))
			}
		}
		if len(all) > 1 {
			several++
		}
		if possible.Len() < len(numbers) && possible.Len() > certain.Len() {
			narrow++
		}
	}
	if accepted < 1500 || several < 300 || narrow < 300 {
		t.Error("the samples are one-sided", accepted, several, narrow)
	}
}
