package parse_test

import (
	"fmt"
	"reflect"
	"slices"
	"strings"
	"testing"

	"ostler/api"
	"ostler/lex"
	"ostler/parse"
	"ostler/term"
)

// P4.1: comparison with the grammar

func brief(x any) string { return fmt.Sprintf("%.500s", fmt.Sprintf("%+v", x)) }

func TestRandomPrograms(t *testing.T) {
	g := random{seed: 1}
	for range 5000 {
		g.tokens = nil
		want := g.program()
		if got, at, e := parse.Parse(g.source()); !same(got, want) || at != 0 || e != api.OK {
			t.Fatalf("%.500q: %s, %d, error %d, want %s", g.source(), brief(got), at, e, brief(want))
		}
	}
}

func TestRandomRulesAndTerms(t *testing.T) {
	g := random{seed: 2}
	for range 5000 {
		g.tokens = nil
		rule := g.rule()
		if got, at, e := parse.Rule(g.source()); !same(got, rule) || at != 0 || e != api.OK {
			t.Fatalf("%.500q: %s, %d, error %d, want %s", g.source(), brief(got), at, e, brief(rule))
		}
		g.tokens = nil
		want := g.term(2)
		if got, at, e := parse.Term(g.source()); term.Depth(want) <= api.MaxDepth && (!same(got, want) || at != 0 || e != api.OK) {
			t.Fatalf("%.500q: %s, %d, error %d, want %s", g.source(), brief(got), at, e, brief(want))
		}
	}
}

// TestRandomErrors changes tokens of programs, rules and terms.
func TestRandomErrors(t *testing.T) {
	g := random{seed: 3}
	forms := grammar()
	phrases := map[string]func(string) outcome{"program": parseProgram, "single": parseRule, "term": parseTerm}
	right := 0
	for i := range 9000 {
		g.tokens = nil
		phrase := []string{"program", "single", "term"}[i%3]
		switch phrase {
		case "program":
			g.program()
		case "single":
			g.rule()
		case "term":
			g.term(1)
		}
		g.mutate()
		tokens, _, _ := lex.Lex(g.source())
		wrong, ok := read(forms, phrase, tokens)
		want := outcome{0, api.OK, len(tokens) == 0}
		if ok {
			right++
		} else {
			want = outcome{append(tokens, lex.Token{At: len(g.source())})[wrong].At, parse.ErrSyntax, true}
		}
		if got := phrases[phrase](g.source()); got != want {
			t.Fatalf("%s %.500q: %+v, want %+v", phrase, g.source(), got, want)
		}
	}
	if right < 500 || right > 8500 {
		t.Error(right, "of the sources are right")
	}
}

// P4.2

func TestRuleErrors(t *testing.T) {
	for _, marked := range []string{"^", " % c^", "a. ^b.", "a. ^.", "a.^]", ":~. [1]^.", ":~. [1] ^a.", "^#show.", "^#const n = 1.", "^#minimize{1}.", "^#minimize{1", "^#count.", "a^", "a ^]", "^.", "a :- b : c, d, e ^: f.", "X^"} {
		checkError(t, parseRule, marked, parse.ErrSyntax)
	}
	deep := nested(13)
	for _, marked := range []string{":~. [^" + deep + "]", " ^p(" + deep + ").", ":- 1 = ^" + deep + "]", "p(1,2,3,4,5,6,7,8,^", "a" + strings.Repeat("|a", api.MaxElems-1) + "|^]"} {
		checkError(t, parseRule, marked, api.ErrMany)
	}
}

func TestTermErrors(t *testing.T) {
	for _, marked := range []string{"^", " % c^", "1 ^2", "1^.", "f(1^", "f(^)", "1..2 ^.. 3", "a ^= 1", "^not a", "^.", "X ^{", "(1^", "(1 ^]", "1^)", "a ^:- b", "^#show", "-^", "1-^", "^{a}"} {
		checkError(t, parseTerm, marked, parse.ErrSyntax)
	}
	for _, marked := range []string{"^" + nested(13), " % c\n ^" + nested(13) + " ]", "^X+" + nested(12), "^(" + nested(13) + ")", "f(1,2,3,4,5,6,7,8,^9)", "f(1,2,3,4,5,6,7,8,^", "1+f(1,2,3,4,5,6,7,8, ^]"} {
		checkError(t, parseTerm, marked, api.ErrMany)
	}
	if got, at, e := parse.Term(" " + nested(12)); term.Depth(got) != 12 || at != 0 || e != api.OK {
		t.Error(got, at, e)
	}
}

// P4.3

func TestBlanksAndComments(t *testing.T) {
	g := random{seed: 4}
	gaps := []string{" ", "\t\n", "%\n", " % not :- ? 00\n\r", "% c\n%d\n"}
	for i := range 2000 {
		g.tokens = nil
		g.program()
		if i%2 == 0 {
			g.mutate()
		}
		wide := gaps[i%len(gaps)]
		for k, text := range g.tokens {
			wide += text + gaps[(i+k)%len(gaps)]
		}
		p, at, e := parse.Parse(g.source())
		again, wideAt, wideE := parse.Parse(wide)
		if !same(p, again) || e != wideE || e != api.OK && tokenAt(g.source(), at) != tokenAt(wide, wideAt) {
			t.Fatalf("%.500q: %d, error %d\n%.500q: %d, error %d", g.source(), at, e, wide, wideAt, wideE)
		}
	}
}

// tokenAt returns the number of the token at an offset of a source, or of all tokens at its end.
func tokenAt(src string, at int) int {
	tokens, _, _ := lex.Lex(src)
	i := slices.IndexFunc(tokens, func(x lex.Token) bool { return x.At == at })
	if i < 0 && at == len(src) {
		return len(tokens)
	}
	return i
}

func TestSourcesInSuccession(t *testing.T) {
	g := random{seed: 5}
	for range 2000 {
		g.tokens = nil
		p := g.program()
		first := g.source()
		g.tokens = nil
		q := g.program()
		want := api.Prog{Rules: append(p.Rules, q.Rules...), Consts: append(p.Consts, q.Consts...), Shows: append(p.Shows, q.Shows...), Some: p.Some || q.Some}
		if got, at, e := parse.Parse(first + " " + g.source()); !same(got, want) || at != 0 || e != api.OK {
			t.Fatalf("%.500q and %.500q: %s, %d, error %d", first, g.source(), brief(got), at, e)
		}
	}
}

// parts yields a value and all values in it.
func parts(v reflect.Value, yield func(reflect.Value)) {
	yield(v)
	switch v.Kind() {
	case reflect.Struct:
		for i := range v.NumField() {
			parts(v.Field(i), yield)
		}
	case reflect.Slice:
		for i := range v.Len() {
			parts(v.Index(i), yield)
		}
	}
}

func TestTermsAreValid(t *testing.T) {
	g := random{seed: 6}
	terms := 0
	for i := range 2000 {
		g.tokens = nil
		g.program()
		if i%2 == 0 {
			g.mutate()
		}
		p, _, _ := parse.Parse(g.source())
		parts(reflect.ValueOf(p), func(v reflect.Value) {
			if x, ok := v.Interface().(api.Term); ok && x.Kind != 0 {
				terms++
				if !term.Valid(x) {
					t.Fatalf("%.500q: %s", g.source(), brief(x))
				}
			}
		})
	}
	if terms < 10000 {
		t.Error("only", terms, "terms")
	}
}

// TestExample is the example of the chapter.
func TestExample(t *testing.T) {
	p, _, e := parse.Parse("p(X+1) | q :- r(X), not s : t(X), u; X < -3. 1 { a : b; c } 2. #minimize { 3@2, X : p(X) }.")
	if e != api.OK || len(p.Rules) != 3 {
		t.Fatal(p, e)
	}
	disjunction, choice, element := p.Rules[0], p.Rules[1], p.Rules[2]
	if b := disjunction.Body; disjunction.Kind != api.RuleDisj || len(disjunction.Heads) != 2 || len(b) != 3 || b[0].Kind != api.BodyLit || b[1].Kind != api.BodyCond || len(b[1].Cond) != 2 || !same(b[2].Lit, comp(variable("X"), api.OpLt, num(-3))) {
		t.Errorf("%+v", disjunction)
	}
	if choice.Kind != api.RuleChoice || !same(choice.Lower, num(1)) || !same(choice.Upper, num(2)) || len(choice.Heads) != 2 {
		t.Errorf("%+v", choice)
	}
	if element.Kind != api.RuleWeak || !same(element.Weight, num(3)) || !same(element.Level, num(2)) || !same(element.Tuple, []api.Term{variable("X")}) || len(element.Body) != 1 {
		t.Errorf("%+v", element)
	}
	checkError(t, parseProgram, "a :- b^", parse.ErrSyntax)
	checkError(t, parseProgram, "a :- b : c, d, e ^: f.", parse.ErrSyntax)
}

// R3

// TestNoSharedMemory compares the memory of all slices of two results, up to their capacities.
func TestNoSharedMemory(t *testing.T) {
	g := random{seed: 7}
	for range 200 {
		g.tokens = nil
		want := g.program()
		var memory []reflect.Value
		for range 2 {
			p, _, _ := parse.Parse(g.source())
			parts(reflect.ValueOf(p), func(v reflect.Value) {
				if v.Kind() == reflect.Slice && v.Cap() > 0 {
					memory = append(memory, v)
				}
			})
		}
		slices.SortFunc(memory, func(a, b reflect.Value) int { return int(int64(a.Pointer()) - int64(b.Pointer())) })
		for i := range memory[min(1, len(memory)):] {
			end := memory[i].Pointer() + uintptr(memory[i].Cap())*memory[i].Type().Elem().Size()
			if end > memory[i+1].Pointer() {
				t.Fatalf("%.500q: two slices share memory: %s", g.source(), brief(memory[i+1]))
			}
		}
		if p, _, _ := parse.Parse(g.source()); !same(p, want) {
			t.Fatalf("%.500q: %s", g.source(), brief(p))
		}
	}
}
