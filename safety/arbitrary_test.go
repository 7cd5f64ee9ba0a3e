package safety_test

import (
	"slices"
	"strconv"
	"strings"
	"testing"

	"ostler/api"
	"ostler/safety"
)

// P8.1 and P8.2 for arguments that no source is parsed as.

// filledLit returns a literal of a kind with a variable in each place: A in the atom, L and R.
func filledLit(kind uint8) api.Lit {
	return api.Lit{Kind: kind, Op: api.OpLt, Atom: atom("p", variable("A")), L: variable("L"), R: variable("R")}
}

// filledBody returns a body element of a kind with a variable in each place.
func filledBody(kind uint8) api.Body {
	return api.Body{
		Kind: kind, Lit: positive("p", variable("Lit")), Cond: []api.Lit{positive("p", variable("Cond"))},
		Elems: []api.Elem{{Tuple: []api.Term{variable("Tuple")}, Cond: []api.Lit{positive("p", variable("ElemCond"))}}}, Bound: variable("Bound"),
	}
}

// filledRule returns a rule of a kind with a variable in each place of the rule itself.
func filledRule(kind uint8) api.Rule {
	return api.Rule{
		Kind: kind, Heads: []api.Head{{Atom: atom("p", variable("Head")), Cond: []api.Lit{positive("p", variable("HeadCond"))}}},
		Lower: variable("Lower"), Upper: variable("Upper"), Weight: variable("Weight"), Level: variable("Level"), Tuple: []api.Term{variable("Tuple")},
	}
}

func TestKindsOfRules(t *testing.T) {
	for kind := range 256 {
		global, unsafe := "Head HeadCond Level Lower Tuple Upper Weight", "Head HeadCond Level Lower Tuple Upper Weight"
		if kind == int(api.RuleChoice) {
			global, unsafe = "Level Lower Tuple Upper Weight", "Head Level Lower Tuple Upper Weight"
		}
		checkRule(t, "a rule of kind "+strconv.Itoa(kind), filledRule(uint8(kind)), global, unsafe)
	}
}

func TestKindsOfBodyElements(t *testing.T) {
	for kind := range 256 {
		global, unsafe := "", ""
		switch uint8(kind) {
		case api.BodyLit:
			global = "Lit"
		case api.BodyCond:
			unsafe = "Lit"
		case api.BodyAgg:
			global, unsafe = "Bound", "Bound Tuple"
		}
		checkRule(t, "an element of kind "+strconv.Itoa(kind), api.Rule{Body: []api.Body{filledBody(uint8(kind))}}, global, unsafe)
	}
}

func TestKindsOfLiterals(t *testing.T) {
	for kind := range 256 {
		global, unsafe := "", ""
		switch uint8(kind) {
		case api.LitAtom:
			global = "A"
		case api.LitComp:
			global, unsafe = "L R", "L R"
		}
		l, name := filledLit(uint8(kind)), "a literal of kind "+strconv.Itoa(kind)
		head := api.Head{Cond: []api.Lit{l}}
		checkRule(t, name, api.Rule{Body: []api.Body{bodyLit(l)}}, global, unsafe)
		checkRule(t, name+" in a head", api.Rule{Heads: []api.Head{head}}, global, global)
		checkRule(t, name+" in a choice", api.Rule{Kind: api.RuleChoice, Heads: []api.Head{head}}, "", unsafe)
		checkRule(t, name+" in a conditional literal", api.Rule{Body: []api.Body{{Kind: api.BodyCond, Lit: l}}}, "", global)
		checkRule(t, name+" in a condition", api.Rule{Body: []api.Body{{Kind: api.BodyCond, Cond: head.Cond}}}, "", unsafe)
		checkRule(t, name+" in an aggregate", api.Rule{Body: []api.Body{{Kind: api.BodyAgg, Elems: []api.Elem{{Cond: head.Cond}}}}}, "", unsafe)
		checkNames(t, "Bound by "+name, safety.Bound(head.Cond, nil), text(without(strings.Fields(global), unsafe)))
	}
}

func TestComparisonsThatDoNotBind(t *testing.T) {
	for op := range 256 {
		for _, not := range []bool{false, true} {
			for _, l := range []api.Lit{equation(variable("X"), number(1)), equation(number(1), variable("X"))} {
				l.Op, l.Not = uint8(op), not
				want := ""
				if l.Op == api.OpEq && !not {
					want = "X"
				}
				checkNames(t, "Bound by operator "+strconv.Itoa(op), safety.Bound([]api.Lit{l}, nil), want)
			}
		}
	}
}

// TestInvalidTerms checks that a variable is found wherever it is, and that only operations and intervals keep it from being bound.
func TestInvalidTerms(t *testing.T) {
	x := variable("X")
	for kind := range 256 {
		term := api.Term{Kind: uint8(kind), Num: -5, Name: "Y", Args: []api.Term{x, function("", x)}}
		global, bound := "X", "X"
		switch term.Kind {
		case api.TermVar:
			global, bound = "X Y", "X Y"
		case api.TermOp, api.TermRange:
			bound = ""
		}
		name := "a term of kind " + strconv.Itoa(kind)
		checkNames(t, "Global of "+name, safety.Global(api.Rule{Heads: []api.Head{{Atom: atom("p", term)}}}), global)
		checkNames(t, "Global of the bound "+name, safety.Global(api.Rule{Lower: term}), global)
		checkNames(t, "Bound by "+name, safety.Bound([]api.Lit{positive("", term)}, nil), bound)

		equations := []api.Lit{equation(variable("Z"), term)}
		checkNames(t, "Bound by an equation with "+name, safety.Bound(equations, []string{"X"}), map[bool]string{true: "X", false: "X Z"}[term.Kind == api.TermVar])
		checkNames(t, "Bound by an equation with "+name, safety.Bound(equations, []string{"X", "Y"}), "X Y Z")
		solved := []api.Lit{equation(term, number(1))}
		checkNames(t, "Bound by an equation for "+name, safety.Bound(solved, nil), map[bool]string{true: "Y", false: ""}[term.Kind == api.TermVar])
	}
}

// TestStrangeNames checks that any string may be the name of a variable.
func TestStrangeNames(t *testing.T) {
	names := []string{"", "\x00", " ", "X Y", "not", "x", "\xff\xfe", "\xff", "é", "X", "X\x00"}
	want := []string{"", "\x00", " ", "X", "X\x00", "X Y", "not", "x", "é", "\xff", "\xff\xfe"}
	r := api.Rule{Tuple: []api.Term{}}
	for _, name := range names {
		r.Tuple = append(r.Tuple, variable(name), variable(name))
	}
	check := func(call string, got []string) {
		t.Helper()
		if !slices.Equal(got, want) {
			t.Errorf("%s: %q, want %q", call, got, want)
		}
	}
	check("Global", safety.Global(r))
	check("Unsafe", safety.Unsafe(r))
	check("Bound, given", safety.Bound(nil, slices.Concat(names, names)))
	check("Bound", safety.Bound([]api.Lit{positive("p", r.Tuple...)}, nil))
	r.Body = []api.Body{bodyLit(positive("", r.Tuple...))}
	checkNames(t, "Unsafe of a safe rule", safety.Unsafe(r), "")
	checkNames(t, "Bound by an equation", safety.Bound([]api.Lit{equation(variable("X"), variable(""))}, []string{""})[1:], "X")
	checkNames(t, "Bound by nothing", safety.Bound(nil, nil), "")
	checkRule(t, "no rule", api.Rule{}, "", "")
}

// TestLargeRules checks that deep terms, and long lists whose order is inconvenient, are no obstacle.
func TestLargeRules(t *testing.T) {
	x := variable("X")
	deep := tower(1<<16, x)
	checkRule(t, "a deep head", api.Rule{Heads: []api.Head{{Atom: atom("p", deep)}}}, "X", "X")
	checkRule(t, "a deep body", api.Rule{Lower: x, Body: []api.Body{bodyLit(positive("p", deep))}}, "X", "")
	checkRule(t, "a deep operation", api.Rule{Body: []api.Body{bodyLit(positive("p", tower(1<<16, sum(x, x))))}}, "X", "X")
	checkRule(t, "a deep equation", api.Rule{Body: []api.Body{bodyLit(equation(variable("Y"), deep)), bodyLit(equation(number(1), x))}}, "X Y", "")

	const count = 50000
	name := func(i int) api.Term { return variable("X" + strconv.Itoa(i)) }
	var chain []api.Lit
	var all []api.Term
	for i := range count {
		chain = append(chain, equation(name(i), sum(name(i+1), name(i+1))))
		all = append(all, name(i))
	}
	if got := safety.Bound(chain, nil); len(got) != 0 {
		t.Error(len(got), "variables are bound by nothing")
	}
	if got := safety.Bound(chain, []string{"X" + strconv.Itoa(count)}); len(got) != count+1 {
		t.Error(len(got), "variables are bound by a chain")
	}
	chain = append(chain, equation(variable("Y"), function("f", all...)), equation(name(count), number(1)))
	if got := safety.Bound(chain, nil); len(got) != count+2 {
		t.Error(len(got), "variables are bound by a chain and its end")
	}
}

// TestManyElements checks that the global variables are not looked through for each element.
func TestManyElements(t *testing.T) {
	const count = 20000
	r := api.Rule{Kind: api.RuleChoice}
	for i := range count {
		x, y := variable("X"+strconv.Itoa(i)), variable("Y"+strconv.Itoa(i))
		r.Body = append(r.Body, bodyLit(positive("p", x)))
		r.Heads = append(r.Heads, api.Head{Atom: atom("p", y), Cond: []api.Lit{equation(y, sum(x, x))}})
	}
	if got := safety.Global(r); len(got) != count {
		t.Error(len(got), "global variables")
	}
	checkNames(t, "Unsafe of a rule with many elements", safety.Unsafe(r), "")
	r.Heads = append(r.Heads, api.Head{Atom: atom("p", variable("Z"))})
	checkNames(t, "Unsafe of a rule with many elements", safety.Unsafe(r), "Z")
}
