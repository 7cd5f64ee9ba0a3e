package depend_test

import (
	"slices"
	"strconv"
	"testing"

	"ostler/api"
	"ostler/depend"
)

// Programs that no source is parsed as.

// filledBody returns a body element of a kind with an atom in each place.
func filledBody(kind uint8) api.Body {
	return api.Body{
		Kind: kind, Lit: negative("lit/0"), Cond: []api.Lit{positive("cond/0")},
		Elems: []api.Elem{{Cond: []api.Lit{positive("elem/0")}}},
	}
}

func TestKindsOfRules(t *testing.T) {
	for kind := range 256 {
		r := api.Rule{Kind: uint8(kind), Heads: []api.Head{head("a/0", positive("c/0")), head("b/0", negative("d/0"))}, Body: []api.Body{bodyLit(positive("e/0"))}}
		want := expected{
			sigs:       "a/0 b/0 c/0 d/0 e/0",
			edges:      "a/0 b/0, a/0 c/0, a/0 -c/0, a/0 e/0, b/0 a/0, b/0 d/0, b/0 -d/0, b/0 e/0",
			components: "c/0; d/0; e/0; a/0 b/0",
			recursive:  "a/0 b/0",
			domain:     "c/0 d/0 e/0",
		}
		if r.Kind == api.RuleChoice {
			want.edges = "a/0 c/0, a/0 -c/0, a/0 e/0, b/0 d/0, b/0 -d/0, b/0 e/0"
			want.components, want.recursive = "c/0; d/0; e/0; a/0; b/0", ""
		}
		name := "a rule of kind " + strconv.Itoa(kind)
		check(t, name, program(r), want)

		r.Heads = r.Heads[:1]
		want = expected{"a/0 c/0 e/0", "a/0 c/0, a/0 -c/0, a/0 e/0", "c/0; e/0; a/0", "", "c/0 e/0"}
		if r.Kind == api.RuleDisj {
			want.domain = "a/0 c/0 e/0"
		}
		check(t, name+" with one head", program(r), want)

		r.Heads[0].Cond[0].Atom.Pred = "a"
		conds := api.OK
		if r.Kind == api.RuleChoice {
			conds = depend.ErrCond
		}
		checkConds(t, name, program(r), conds)
		r.Heads = nil
		r.Body = []api.Body{{Kind: api.BodyCond, Cond: []api.Lit{positive("a/0")}}}
		checkConds(t, name, program(r, api.Rule{Heads: []api.Head{head("a/0")}}), depend.ErrCond)
	}
}

func TestKindsOfBodyElements(t *testing.T) {
	for kind := range 256 {
		p := program(api.Rule{Kind: api.RuleDisj, Heads: []api.Head{head("a/0")}, Body: []api.Body{filledBody(uint8(kind))}}, api.Rule{Kind: api.RuleWeak, Heads: []api.Head{head("cond/0")}})
		want := expected{sigs: "a/0 cond/0 elem/0 lit/0", components: "a/0; cond/0; elem/0; lit/0", domain: "a/0 elem/0 lit/0"}
		conds := api.OK
		switch uint8(kind) {
		case api.BodyLit:
			want.edges, want.components = "a/0 -lit/0", "cond/0; elem/0; lit/0; a/0"
		case api.BodyCond:
			want.edges, want.components = "a/0 cond/0, a/0 -cond/0, a/0 lit/0, a/0 -lit/0", "cond/0; elem/0; lit/0; a/0"
			want.domain, conds = "elem/0 lit/0", depend.ErrCond
		case api.BodyAgg:
			want.edges, want.components = "a/0 elem/0, a/0 -elem/0", "cond/0; elem/0; a/0; lit/0"
			want.domain = "elem/0 lit/0"
		}
		name := "an element of kind " + strconv.Itoa(kind)
		check(t, name, p, want)
		checkConds(t, name, p, conds)
		if got := depend.Recursive(p, sigs("a/0 cond/0 elem/0 lit/0")); got != (want.edges != "") {
			t.Errorf("Recursive of %s: %v", name, got)
		}
	}
}

func TestKindsOfLiterals(t *testing.T) {
	for kind := range 256 {
		l := positive("b/0")
		l.Kind, l.Op = uint8(kind), api.OpLt
		head := head("a/0", l)
		bodies := []api.Body{bodyLit(l), {Kind: api.BodyCond, Lit: l}, {Kind: api.BodyCond, Cond: head.Cond}, {Kind: api.BodyAgg, Elems: []api.Elem{{Cond: head.Cond}}}, {Kind: 9, Lit: l}, {Kind: 9, Cond: head.Cond}, {Kind: 9, Elems: []api.Elem{{Cond: head.Cond}}}}
		rules := []api.Rule{{Kind: api.RuleChoice, Heads: []api.Head{head}}}
		for _, b := range bodies {
			rules = append(rules, api.Rule{Kind: api.RuleDisj, Heads: []api.Head{{Atom: atom("a/0")}}, Body: []api.Body{b}})
		}
		edges := []string{"a/0 b/0, a/0 -b/0", "a/0 b/0", "a/0 b/0, a/0 -b/0", "a/0 b/0, a/0 -b/0", "a/0 b/0, a/0 -b/0", "", "", ""}
		for i, r := range rules {
			wantSigs, wantEdges := "a/0", ""
			if l.Kind == api.LitAtom {
				wantSigs, wantEdges = "a/0 b/0", edges[i]
			}
			name := "rule " + strconv.Itoa(i) + " with a literal of kind " + strconv.Itoa(kind)
			same(t, "Sigs of "+name, sigsText(depend.Sigs(program(r))), wantSigs)
			same(t, "Edges of "+name, edgesText(depend.Edges(program(r))), wantEdges)
		}
		conds := api.OK
		if l.Kind == api.LitAtom {
			conds = depend.ErrCond
		}
		for _, i := range []int{0, 3} {
			checkConds(t, "a literal of kind "+strconv.Itoa(kind), program(rules[i], api.Rule{Heads: []api.Head{{Atom: atom("b/0")}}}), conds)
		}
	}
}

// TestSignsOfLiterals checks that only the sign of a body element of kind BodyLit counts, and that of its literal, not of the element.
func TestSignsOfLiterals(t *testing.T) {
	b := bodyLit(positive("b/0"))
	b.Not = true
	heads := []api.Head{head("a/0")}
	same(t, "Edges", edgesText(depend.Edges(program(api.Rule{Heads: heads, Body: []api.Body{b}}))), "a/0 b/0")
	b.Not, b.Lit.Not = false, true
	same(t, "Edges", edgesText(depend.Edges(program(api.Rule{Heads: heads, Body: []api.Body{b}}))), "a/0 -b/0")
	for _, not := range []bool{false, true} {
		b = filledBody(api.BodyAgg)
		b.Not = not
		same(t, "Edges", edgesText(depend.Edges(program(api.Rule{Heads: heads, Body: []api.Body{b}}))), "a/0 elem/0, a/0 -elem/0")
	}
}

// TestRestOfProgram checks that constants and shows do not matter.
func TestRestOfProgram(t *testing.T) {
	p := api.Prog{Consts: []api.Const{{Name: "c"}}, Shows: sigs("s/0"), Some: true}
	check(t, "a program without rules", p, expected{})
	check(t, "no program", api.Prog{}, expected{})
	checkConds(t, "no program", api.Prog{}, api.OK)
	p.Rules = make([]api.Rule, 3)
	p.Rules[1] = api.Rule{Heads: make([]api.Head, 1), Body: make([]api.Body, 2)}
	check(t, "a program of zeros", p, expected{sigs: "/0", components: "/0"})
	checkConds(t, "a program of zeros", p, api.OK)
}

// TestStrangeNames checks that any string may be the name of a predicate, and that no two predicates are confused.
func TestStrangeNames(t *testing.T) {
	names := []string{"\xff", "", "a b", "\x00", "a", "not", "-a", "a\x00", "A", "a1", "a1/1", "é"}
	r := api.Rule{Kind: api.RuleDisj, Heads: []api.Head{head("h/0")}}
	for _, name := range names {
		for arity := range 3 {
			r.Body = append(r.Body, bodyLit(positive(name+"/"+strconv.Itoa(arity))))
		}
	}
	slices.Sort(names)
	want := ""
	for _, name := range names {
		for arity := range 3 {
			want += name + "/" + strconv.Itoa(arity) + "; "
		}
	}
	same(t, "Components", componentsText(depend.Components(program(r))), want+"h/0")
	if got := depend.Edges(program(r)); len(got) != 3*len(names) {
		t.Error(len(got), "edges")
	}
}

// TestLongPaths checks that long paths and cycles are no obstacle.
func TestLongPaths(t *testing.T) {
	const count = 50000
	name := func(i int) string { return strconv.Itoa(1000000+i) + "/0" }
	var p api.Prog
	for i := range count {
		p.Rules = append(p.Rules, api.Rule{Kind: api.RuleDisj, Heads: []api.Head{head(name(i))}, Body: []api.Body{bodyLit(positive(name(i + 1)))}})
	}
	got := depend.Components(p)
	if len(got) != count+1 || len(depend.Domain(p)) != count+1 || len(depend.Edges(p)) != count {
		t.Fatal(len(got), "components of a path")
	}
	for i, c := range got {
		if sigsText(c) != name(count-i) {
			t.Fatal("the components of a path are out of order")
		}
	}
	p.Rules[count-1].Body = append(p.Rules[count-1].Body, bodyLit(positive(name(0))), bodyLit(negative("a/0")))
	if got := depend.Components(p); len(got) != 3 || len(got[2]) != count || !depend.Recursive(p, got[2]) || len(depend.Domain(p)) != count+2 {
		t.Error(len(got), "components of a cycle")
	}
	p.Rules[1].Body[0].Lit.Not = true
	same(t, "Domain of a negative cycle", sigsText(depend.Domain(p)), name(count)+" a/0")
}

// TestWideRules checks that only Edges takes time for each pair of a head and a literal.
func TestWideRules(t *testing.T) {
	const count = 20000
	for _, kind := range []uint8{api.RuleDisj, api.RuleChoice} {
		r := api.Rule{Kind: kind}
		var names []string
		for i := range count {
			names = append(names, "b"+strconv.Itoa(i)+"/0")
			r.Heads = append(r.Heads, head("a"+strconv.Itoa(i)+"/0"))
			r.Body = append(r.Body, bodyLit(negative(names[i])))
		}
		slices.Sort(names)
		want := map[uint8]int{api.RuleDisj: count + 1, api.RuleChoice: 2 * count}[kind]
		if got := depend.Components(program(r)); len(got) != want || sigsText(got[count-1]) != names[count-1] {
			t.Error(len(got), "components of a wide rule")
		}
		if got := depend.Domain(program(r)); len(got) != count || textOf(got[count-1]) != names[count-1] {
			t.Error(len(got), "domain predicates of a wide rule")
		}
		bodies := depend.Domain(program(r))
		if depend.Recursive(program(r), bodies) || !depend.Recursive(program(r), append(bodies, sig("a0/0"))) {
			t.Error("Recursive of a wide rule")
		}
		checkConds(t, "a wide rule", program(r), api.OK)
	}
}

// TestRepeatedHeads checks that equal atoms in a rule take no time for each pair.
func TestRepeatedHeads(t *testing.T) {
	r := api.Rule{Kind: api.RuleDisj, Heads: slices.Repeat([]api.Head{head("a/0")}, 50000), Body: slices.Repeat([]api.Body{bodyLit(positive("b/0"))}, 50000)}
	check(t, "a rule with repeated atoms", program(r), expected{"a/0 b/0", "a/0 a/0, a/0 b/0", "b/0; a/0", "a/0", "b/0"})
}
