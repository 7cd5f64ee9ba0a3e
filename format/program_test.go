package format_test

import (
	"slices"
	"strconv"
	"strings"
	"testing"

	"ostler/api"
	"ostler/format"
)

func checkProgram(t *testing.T, name string, p api.Prog, want string, e api.Errno) {
	t.Helper()
	if got, gotE := format.Program(p); got != want || gotE != e {
		t.Errorf("%.200s: %.200q, error %d, want %.200q, error %d", name, got, gotE, want, e)
	}
}

// P5.2: sources

func TestPrograms(t *testing.T) {
	for src, want := range map[string]string{
		"":                                       "",
		"% nothing":                              "",
		"a.b:-a.":                                "a.\nb :- a.\n",
		"#show.":                                 "#show.\n",
		"#show. #show. a. #show.":                "a.\n#show.\n",
		"#show p/2.":                             "#show.\n#show p/2.\n",
		"#show b/0. a. #show a/1.":               "a.\n#show.\n#show b/0.\n#show a/1.\n",
		"#show a/0. #show a/0.":                  "#show.\n#show a/0.\n#show a/0.\n",
		"#show a/2147483647.":                    "#show.\n#show a/2147483647.\n",
		"a.#const n=1.#const m=f(n,X..2).":       "#const n = 1.\n#const m = f(n,X..2).\na.\n",
		"#const n=1. #const n=-(1).":             "#const n = 1.\n#const n = -(1).\n",
		"#minimize{1;X@2,Y:p(X,Y),not q;Z:Z=1}.": ":~. [1@0]\n:~ p(X,Y), not q. [X@2,Y]\n:~ Z = 1. [Z@0]\n",
		"#show p/1. {a}. #const n=1. :~b.[1] #show. :-c. #show q/0. a|b.": "#const n = 1.\n{ a }.\n:~ b. [1@0]\n:- c.\na | b.\n#show.\n#show p/1.\n#show q/0.\n",
	} {
		checkProgram(t, src, programOf(t, src), want, api.OK)
	}
	checkProgram(t, "zero", api.Prog{}, "", api.OK)
	checkProgram(t, "empty slices", api.Prog{Rules: []api.Rule{}, Consts: []api.Const{}, Shows: []api.Sig{}}, "", api.OK)
	checkProgram(t, "no shown predicates", api.Prog{Shows: []api.Sig{}, Some: true}, "#show.\n", api.OK)
}

// P5.2: errors

func TestLimitsOfPrograms(t *testing.T) {
	a := api.Rule{Kind: api.RuleDisj, Heads: []api.Head{{Atom: api.Atom{Pred: "a"}}}}
	for _, n := range []int{api.MaxRules, api.MaxRules + 1} {
		rules := slices.Repeat([]api.Rule{a}, n)
		consts := slices.Repeat([]api.Const{{Name: "n", Val: api.Term{Kind: api.TermInt}}}, n)
		shows := slices.Repeat([]api.Sig{{Name: "a"}}, n)
		for _, c := range []struct {
			p   api.Prog
			src string
		}{
			{api.Prog{Rules: rules}, strings.Repeat("a.\n", n)},
			{api.Prog{Consts: consts}, strings.Repeat("#const n = 0.\n", n)},
			{api.Prog{Shows: shows, Some: true}, "#show.\n" + strings.Repeat("#show a/0.\n", n)},
		} {
			e := api.OK
			if n > api.MaxRules {
				c.src, e = "", api.ErrArg
			}
			checkProgram(t, strconv.Itoa(n), c.p, c.src, e)
		}
		if n == api.MaxRules {
			src := strings.Repeat("#const n = 0.\n", n) + strings.Repeat("a.\n", n) + "#show.\n" + strings.Repeat("#show a/0.\n", n)
			checkProgram(t, "all", api.Prog{Rules: rules, Consts: consts, Shows: shows, Some: true}, src, api.OK)
		}
	}
}

func TestInvalidPrograms(t *testing.T) {
	const src = "#const n = 1. #const m = n+1. a. b :- a. #show a/0. #show b/1."
	for name, change := range map[string]func(p *api.Prog){
		"Some":                       func(p *api.Prog) { p.Some = false },
		"zero rule":                  func(p *api.Prog) { p.Rules[0] = api.Rule{} },
		"invalid rule":               func(p *api.Prog) { p.Rules[1].Heads[0].Atom.Pred = "B" },
		"two rules in one":           func(p *api.Prog) { p.Rules[0].Heads[0].Atom.Pred = "a.\na" },
		"zero definition":            func(p *api.Prog) { p.Consts[1] = api.Const{} },
		"no value":                   func(p *api.Prog) { p.Consts[0].Val = api.Term{} },
		"invalid value":              func(p *api.Prog) { p.Consts[1].Val.Num = 1 },
		"deep value":                 func(p *api.Prog) { p.Consts[0].Val = nested(api.MaxDepth + 1) },
		"large value":                func(p *api.Prog) { p.Consts[0].Val.Num = api.MaxInt + 1 },
		"no constant":                func(p *api.Prog) { p.Consts[0].Name = "" },
		"variable":                   func(p *api.Prog) { p.Consts[0].Name = "X" },
		"keyword":                    func(p *api.Prog) { p.Consts[0].Name = "not" },
		"function":                   func(p *api.Prog) { p.Consts[0].Name = "n(1)" },
		"two definitions in one":     func(p *api.Prog) { p.Consts[0].Name = "l = 2. #const n" },
		"definition and rule in one": func(p *api.Prog) { p.Consts[0].Name = "n = 1. a" },
		"comment in a constant":      func(p *api.Prog) { p.Consts[0].Name = "n%\n" },
		"long constant":              func(p *api.Prog) { p.Consts[0].Name = strings.Repeat("n", api.MaxName+1) },
		"zero predicate":             func(p *api.Prog) { p.Shows[1] = api.Sig{} },
		"no predicate":               func(p *api.Prog) { p.Shows[0].Name = "" },
		"predicate with a variable":  func(p *api.Prog) { p.Shows[0].Name = "A" },
		"predicate not":              func(p *api.Prog) { p.Shows[1].Name = "not" },
		"two predicates in one":      func(p *api.Prog) { p.Shows[0].Name = "a/0. #show a" },
		"directive and rule in one":  func(p *api.Prog) { p.Shows[0].Name = "a/0. a :- 1" },
		"blank in a predicate":       func(p *api.Prog) { p.Shows[0].Name = "a " },
		"negative arity":             func(p *api.Prog) { p.Shows[1].Arity = -1 },
		"large arity":                func(p *api.Prog) { p.Shows[1].Arity = api.MaxInt + 1 },
		"smallest arity":             func(p *api.Prog) { p.Shows[1].Arity = -1 << 63 },
	} {
		p := programOf(t, src)
		change(&p)
		checkProgram(t, name, p, "", api.ErrArg)
		if p.Some {
			p.Rules = append(p.Rules, sizedRule(api.MaxSource))
			checkProgram(t, name+" in a long program", p, "", api.ErrArg)
		}
	}
}

func TestLongPrograms(t *testing.T) {
	one := func(r api.Rule) api.Prog { return api.Prog{Rules: []api.Rule{r}} }
	line := func(size int) string { s, _ := format.Rule(sizedRule(size - 1)); return s + "\n" }
	checkProgram(t, "as long as possible", one(sizedRule(api.MaxSource-1)), line(api.MaxSource), api.OK)
	checkProgram(t, "too long with its newline", one(sizedRule(api.MaxSource)), "", api.ErrLong)
	checkProgram(t, "a rule that is too long", one(sizedRule(api.MaxSource+1)), "", api.ErrArg)

	half := api.MaxSource / 2
	p := api.Prog{Rules: []api.Rule{sizedRule(half - 1), sizedRule(half - 1)}}
	checkProgram(t, "two rules", p, line(half)+line(half), api.OK)
	p.Some = true
	checkProgram(t, "two rules and #show", p, "", api.ErrLong)
	p.Rules[1] = sizedRule(half - 1 - len("#show.\n"))
	checkProgram(t, "shorter rules and #show", p, line(half)+line(half-len("#show.\n"))+"#show.\n", api.OK)
	p.Shows = []api.Sig{{Name: "a"}}
	checkProgram(t, "a shown predicate", p, "", api.ErrLong)

	const definition = "#const n = .\n"
	value := sizedTerm(api.MaxSource - len(definition))
	got, e := format.Program(api.Prog{Consts: []api.Const{{Name: "n", Val: value}}})
	if len(got) != api.MaxSource || e != api.OK {
		t.Errorf("%d bytes, error %d", len(got), e)
	}
	value = sizedTerm(api.MaxSource - len(definition) + 1)
	checkProgram(t, "a definition", api.Prog{Consts: []api.Const{{Name: "n", Val: value}}}, "", api.ErrLong)
}
