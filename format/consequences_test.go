package format_test

import (
	"testing"

	"ostler/api"
	"ostler/format"
	"ostler/lex"
	"ostler/parse"
)

// P5.1: random rules

func TestRandomRules(t *testing.T) {
	g := newRandom(1)
	for range 5000 {
		r, src := g.rule()
		if got, e := format.Rule(r); got != src || e != api.OK {
			t.Fatalf("%q: %q, error %d", src, got, e)
		}
		l, src := g.literal()
		if got, e := format.Lit(l); got != src || e != api.OK {
			t.Fatalf("%q: %q, error %d", src, got, e)
		}
	}
}

// TestChangedRules changes some parts of rules, and compares the result with the forms that the parser returns.
func TestChangedRules(t *testing.T) {
	g := newRandom(2)
	right := 0
	for range 20000 {
		r, _ := g.rule()
		l, _ := g.literal()
		for range 1 + g.IntN(2) {
			g.change(&r)
			g.change(&l)
		}
		src, e := format.Rule(r)
		back, _, _ := parse.Rule(src)
		if formOfRule(r) && (e != api.OK || !same(back, r)) || !formOfRule(r) && (src != "" || e != api.ErrArg) {
			t.Fatalf("%+v: %q, error %d", r, src, e)
		}
		if e == api.OK {
			right++
		}
		src, e = format.Lit(l)
		back, _, _ = parse.Rule(":- " + src + ".")
		if formOfLit(l) && (e != api.OK || !same(back.Body, []api.Body{{Kind: api.BodyLit, Lit: l}})) || !formOfLit(l) && (src != "" || e != api.ErrArg) {
			t.Fatalf("%+v: %q, error %d", l, src, e)
		}
	}
	if right < 2000 || right > 18000 {
		t.Error(right, "of the rules have sources")
	}
}

// P5.2: random programs

func TestRandomPrograms(t *testing.T) {
	g := newRandom(3)
	for range 2000 {
		p, src := g.program()
		checkProgram(t, src, p, src, api.OK)
	}
}

func TestChangedPrograms(t *testing.T) {
	g := newRandom(4)
	right := 0
	for range 5000 {
		p, _ := g.program()
		g.change(&p)
		src, e := format.Program(p)
		back, _, _ := parse.Parse(src)
		if e == api.OK {
			right++
		}
		if formOfProgram(p) && (e != api.OK || !same(back, p)) || !formOfProgram(p) && (src != "" || e != api.ErrArg) {
			t.Fatalf("%+v: %q, error %d", p, src, e)
		}
	}
	if right < 500 || right > 4500 {
		t.Error(right, "of the programs have sources")
	}
}

// P5.3: random rules

func TestSameChangedRules(t *testing.T) {
	g := newRandom(5)
	equal := 0
	for seed := range uint64(5000) {
		a, _ := newRandom(seed).rule()
		b, _ := newRandom(seed).rule()
		g.change(&b)
		if format.SameRule(a, b) != same(a, b) || format.Same(api.Prog{Rules: []api.Rule{a}}, api.Prog{Rules: []api.Rule{b}}) != same(a, b) {
			t.Fatalf("%+v and %+v", a, b)
		}
		if same(a, b) {
			equal++
		}
	}
	if equal < 100 || equal > 4900 {
		t.Error(equal, "of the pairs are equal")
	}
}

// P5.4

// TestParsedPrograms formats what is parsed from sources of other layouts.
func TestParsedPrograms(t *testing.T) {
	g := newRandom(6)
	for range 2000 {
		_, src := g.program()
		tokens, _, _ := lex.Lex(src)
		loose := "#show a/0. " + lex.Join(tokens...) + " #minimize { 1 : a; X@2 } . % end"
		p := programOf(t, loose)
		first, e := format.Program(p)
		back := programOf(t, first)
		again, _ := format.Program(back)
		if e != api.OK || !format.Same(back, p) || again != first {
			t.Fatalf("%q: %q, error %d, then %q", loose, first, e, again)
		}
	}
}

func TestDifferentRulesHaveDifferentSources(t *testing.T) {
	g := newRandom(7)
	rules := map[string]api.Rule{}
	repeated := 0
	for range 20000 {
		r, _ := g.rule()
		g.change(&r)
		src, e := format.Rule(r)
		if e != api.OK {
			continue
		}
		before, known := rules[src]
		if known {
			repeated++
		}
		if known && !same(before, r) {
			t.Fatalf("%q: %+v and %+v", src, before, r)
		}
		rules[src] = r
	}
	if repeated < 100 {
		t.Error("only", repeated, "sources were repeated")
	}
}

// R3

func TestArgumentsAreNotChanged(t *testing.T) {
	for seed := range uint64(500) {
		p, src := newRandom(seed).program()
		want, _ := newRandom(seed).program()
		first, _ := format.Program(p)
		format.Same(p, want)
		for i, r := range p.Rules {
			format.Rule(r)
			format.SameRule(r, p.Rules[0])
			if len(r.Body) > 0 {
				format.Lit(p.Rules[i].Body[0].Lit)
			}
		}
		if second, _ := format.Program(p); !same(p, want) || first != src || second != src {
			t.Fatalf("%q: %q, then %q", src, first, second)
		}
	}
}
