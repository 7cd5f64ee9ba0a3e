package finite_test

import (
	"slices"
	"strconv"
	"testing"

	"ostler/api"
	"ostler/finite"
)

// Programs that no source is parsed as.

// checkHigh checks the rank of p/1 in a program with a rule for it, in which h/1 has the rank 9 and l/1 the rank 5.
func checkHigh(t *testing.T, name string, want int, r api.Rule) {
	t.Helper()
	x, z := variable("X"), positive("z", variable("X"))
	p := program(r, rule(atom("h", tower(9, x)), z), rule(atom("l", tower(5, x)), z))
	check(t, name, p, "h(9) l(5) p("+strconv.Itoa(want)+") z(0)")
}

// TestKindsOfTerms checks what a term that encloses a variable adds to its depth, and whether the occurrence is still plain.
func TestKindsOfTerms(t *testing.T) {
	x, y, h := variable("X"), variable("Y"), positive("h", variable("X"))
	for kind := range 256 {
		term := api.Term{Kind: uint8(kind), Num: 3, Name: "Y", Args: []api.Term{number(1), function(x)}}
		name := "a term of kind " + strconv.Itoa(kind)
		depth, bound := 1, 9
		switch term.Kind {
		case api.TermVar:
			continue
		case api.TermFun:
			depth, bound = 2, 3
		case api.TermOp:
			depth = 2
		}
		checkHigh(t, name+" in a head", 9+depth, rule(atom("p", term), h))
		checkHigh(t, name+" in a function term", 10+depth, rule(atom("p", function(term)), h))
		checkHigh(t, name+" in an operation", 10+depth, rule(atom("p", operation(term)), h))
		checkHigh(t, name+" in a premise", bound, rule(atom("p", x), h, positive("l", term)))
		checkHigh(t, name+" in an equation", 9+depth, rule(atom("p", y), h, equation(y, term)))
		checkHigh(t, name+" in an equation", 9+depth, rule(atom("p", y), h, equation(term, y)))
		checkHigh(t, name+" as a side", 9, rule(atom("p", x), h, equation(term, number(1))))
	}
}

// TestVariablesWithArguments checks that these do not matter.
func TestVariablesWithArguments(t *testing.T) {
	x := variable("X")
	y := api.Term{Kind: api.TermVar, Num: 3, Name: "Y", Args: []api.Term{variable("W"), x, tower(5, x)}}
	checkHigh(t, "a head", 5, rule(atom("p", y), positive("h", x), positive("l", variable("Y"))))
	checkHigh(t, "a premise", 9, rule(atom("p", x), positive("h", x), positive("l", y)))
	checkHigh(t, "an equation", 5, rule(atom("p", x), positive("h", x), equation(x, y), positive("l", variable("Y"))))
	checkHigh(t, "an equation", 9, rule(atom("p", y), positive("h", x), equation(x, y)))
}

func TestKindsOfBodyElements(t *testing.T) {
	x := variable("X")
	for kind := range 256 {
		b := api.Body{Kind: uint8(kind), Not: true, Lit: positive("l", x), Cond: []api.Lit{positive("z", x)}, Elems: []api.Elem{{Cond: []api.Lit{positive("z", x)}}}, Op: api.OpEq, Bound: x}
		ranks := []int{9, 9}
		if b.Kind == api.BodyLit {
			ranks = []int{5, 0}
		}
		for i, l := range []api.Lit{b.Lit, equation(x, number(1))} {
			r := rule(atom("p", x), positive("h", x))
			b.Lit = l
			r.Body = append(r.Body, b)
			checkHigh(t, "an element of kind "+strconv.Itoa(kind), ranks[i], r)
		}
	}
}

func TestKindsOfLiterals(t *testing.T) {
	x := variable("X")
	for kind := range 256 {
		for op := range 8 {
			for _, not := range []bool{false, true} {
				l := api.Lit{Kind: uint8(kind), Not: not, Atom: atom("l", x), Op: uint8(op), L: x, R: number(1)}
				want := 9
				switch {
				case not:
				case l.Kind == api.LitAtom:
					want = 5
				case l.Kind == api.LitComp && l.Op == api.OpEq:
					want = 0
				}
				name := "a literal of kind " + strconv.Itoa(kind) + " with operator " + strconv.Itoa(op)
				checkHigh(t, name, want, rule(atom("p", x), positive("h", x), l))
				r := rule(atom("p", x), positive("h", x))
				r.Heads[0].Cond = []api.Lit{l}
				checkHigh(t, name+" in a condition", want, r)
			}
		}
	}
}

// TestRestOfProgram checks that what the chapter does not mention does not matter.
func TestRestOfProgram(t *testing.T) {
	x := variable("X")
	r := rule(atom("p", function(number(1))))
	r.Lower, r.Upper, r.Weight, r.Level, r.Tuple = x, x, x, x, []api.Term{x}
	p := program(r, api.Rule{}, api.Rule{Heads: make([]api.Head, 1), Body: make([]api.Body, 2)})
	p.Consts, p.Shows, p.Some = []api.Const{{Name: "c", Val: x}}, []api.Sig{{Name: "s", Arity: 2}}, true
	check(t, "a program", p, "p(0)")
	check(t, "no program", api.Prog{}, "")
}

// TestStrangeNames checks that any string may be the name of a predicate or variable, and that no two places are confused.
func TestStrangeNames(t *testing.T) {
	names := []string{"", "\x00", "A", "a", "a\x00", "a b", "aa", "é", "\xff"}
	var p api.Prog
	var want []finite.Place
	for i, name := range slices.Backward(names) {
		x := variable(name)
		for arity := range 3 {
			p.Rules = append(p.Rules, rule(atom(name, slices.Repeat([]api.Term{tower(i, x)}, arity)...), positive("z", x)))
		}
	}
	for _, name := range append(slices.Clone(names[:7]), "z", "é", "\xff") {
		for arity := range 3 {
			for arg := range arity {
				if name != "z" || arity == 1 {
					want = append(want, finite.Place{Sig: api.Sig{Name: name, Arity: arity}, Arg: arg})
				}
			}
		}
	}
	if got := finite.Places(p); !slices.Equal(got, want) {
		t.Fatalf("Places: %+v", got)
	}
	ranks, e := finite.Ranks(p)
	if e != api.OK {
		t.Fatal("error", e)
	}
	for i, x := range want {
		if ranks[i] != max(slices.Index(names, x.Sig.Name), 0) {
			t.Errorf("%+v: %d", x, ranks[i])
		}
	}
	p.Rules = append(p.Rules, rule(atom("p", variable("a\x00")), positive("z", variable("a"))))
	check(t, "a program with two similar variables", p, none)
}

// name returns a name of a predicate or variable by which these are in order.
func name(prefix string, i int) string { return prefix + strconv.Itoa(1000000+i) }

// ring returns rules by which each of some predicates depends on the one before it, and the first one on the last one. What encloses the variable in a head makes it deeper.
func ring(count int, enclose func(i int) api.Term) []api.Rule {
	var rules []api.Rule
	for i := range count {
		rules = append(rules, rule(atom(name("p", (i+1)%count), enclose(i)), positive(name("p", i), variable("X"))))
	}
	return rules
}

// TestLongPaths checks that long paths and cycles are no obstacle, whatever the order of the rules.
func TestLongPaths(t *testing.T) {
	const count = 20000
	x := variable("X")
	deeper := ring(count, func(int) api.Term { return function(x) })
	once := ring(count, func(i int) api.Term { return tower(btoi(i == 0), x) })
	back := ring(count, func(i int) api.Term { return tower(btoi(i == 0), x) })
	back[count/2].Body[0].Lit.Atom.Args[0] = function(x)
	path, shuffled := slices.Clone(deeper[1:]), newRandom(1, false)
	for _, order := range []func([]api.Rule){func([]api.Rule) {}, slices.Reverse[[]api.Rule], func(l []api.Rule) { shuffle(shuffled, l) }} {
		for _, rules := range [][]api.Rule{deeper, once, back, path} {
			order(rules)
		}
		for _, rules := range [][]api.Rule{deeper, once} {
			if ranks, e := finite.Ranks(program(rules...)); e != finite.ErrRank || len(ranks) > 0 {
				t.Error("a cycle is accepted")
			}
		}
		ranks, e := finite.Ranks(program(path...))
		if e != api.OK || len(ranks) != count || ranks[0] != count-1 || ranks[1] != 0 || ranks[2] != 1 {
			t.Fatal("the ranks of a path: error", e)
		}
		ranks, e = finite.Ranks(program(back...))
		if e != api.OK || ranks[0] != 0 || ranks[1] != 1 || ranks[count/2] != 1 || ranks[count/2+1] != 0 {
			t.Fatal("the ranks of a cycle that comes back: error", e)
		}
	}
}

func btoi(b bool) int {
	if b {
		return 1
	}
	return 0
}

func shuffle[T any](g random, l []T) {
	g.Shuffle(len(l), func(i, k int) { l[i], l[k] = l[k], l[i] })
}

// TestManyRules checks that many rules for the same predicate are no obstacle.
func TestManyRules(t *testing.T) {
	x := variable("X")
	var p api.Prog
	for i := range 50000 {
		p.Rules = append(p.Rules, rule(atom("p", tower(i%10, x)), positive("p", tower(9, x))))
	}
	check(t, "many rules", p, "p(0)")
	p.Rules = append(p.Rules, rule(atom("p", function(x)), positive("p", x), positive("q", x)))
	check(t, "many rules", p, "p(1) q(0)")
	p.Rules[30000] = rule(atom("p", function(x)), positive("p", x))
	check(t, "many rules", p, none)
}

// TestWideRules checks that it takes no time for each pair of a head and a premise.
func TestWideRules(t *testing.T) {
	const count = 20000
	for _, kind := range []uint8{api.RuleDisj, api.RuleChoice} {
		r := api.Rule{Kind: kind}
		for i := range count {
			x := variable(name("X", i))
			r.Heads = append(r.Heads, api.Head{Atom: atom(name("p", i), function(x))})
			r.Body = append(r.Body, bodyLit(positive(name("q", i), x)))
		}
		ranks, e := finite.Ranks(program(r))
		if want := append(slices.Repeat([]int{1}, count), make([]int, count)...); e != api.OK || !slices.Equal(ranks, want) {
			t.Error("the ranks of a wide rule: error", e)
		}
		if !finite.Fits(program(r), ranks) {
			t.Error("the ranks of a wide rule do not fit")
		}
	}
}

// TestManyEquations checks that their order costs no time.
func TestManyEquations(t *testing.T) {
	const count = 50000
	z := positive("z", variable(name("X", 0)))
	var l []api.Lit
	for i := range count {
		l = append(l, equation(variable(name("X", i+1)), function(variable(name("X", i)))))
	}
	last := atom("p", variable(name("X", count)))
	want := "p(" + strconv.Itoa(count) + ") z(0)"
	check(t, "many equations", program(rule(last, append([]api.Lit{z}, l...)...)), want)
	slices.Reverse(l)
	check(t, "many equations", program(rule(last, append(slices.Clone(l), z)...)), want)
	check(t, "many equations", program(rule(last, l...)), none)
	l = nil
	var others []api.Term
	for i := range count {
		others = append(others, variable(name("X", i)))
		l = append(l, positive("z", others[i]))
	}
	l = append(l, equation(variable("Y"), function(others...)))
	slices.Reverse(l)
	check(t, "a large equation", program(rule(atom("p", variable("Y")), l...)), "p(1) z(0)")
}

func TestDeepTerms(t *testing.T) {
	const depth = 1<<16 - 10
	x := variable("X")
	deep := tower(depth, x)
	n := strconv.Itoa(depth)
	check(t, "a deep head", program(rule(atom("p", deep), positive("q", x))), "p("+n+") q(0)")
	check(t, "a deep premise", program(rule(atom("p", x), positive("q", deep))), "p(0) q(0)")
	check(t, "a deep equation", program(rule(atom("p", variable("Y")), positive("q", x), equation(variable("Y"), deep))), "p("+n+") q(0)")
}
