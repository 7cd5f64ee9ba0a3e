package check_test

import (
	"slices"
	"strconv"
	"strings"
	"testing"

	"ostler/api"
	"ostler/check"
	"ostler/format"
	"ostler/parse"
)

// programOf parses a source that must not have errors.
func programOf(t *testing.T, src string) api.Prog {
	t.Helper()
	p, at, e := parse.Parse(src)
	if e != api.OK {
		t.Fatalf("%.200q: error %d at %d", src, e, at)
	}
	return p
}

// checkError checks what the functions return for a program, of which all but Desugar return the same error.
func checkError(t *testing.T, name string, p api.Prog, e, desugarE api.Errno) {
	t.Helper()
	if got := check.Check(p); got != e {
		t.Errorf("Check of %.200s: error %d, want %d", name, got, e)
	}
	if l, got := check.Consts(p); got != e || e != api.OK && len(l) > 0 {
		t.Errorf("Consts of %.200s: %d constants, error %d, want %d", name, len(l), got, e)
	}
	if d, got := check.Desugar(p); got != desugarE || desugarE != api.OK && !format.Same(d, api.Prog{}) {
		t.Errorf("Desugar of %.200s: %d rules, error %d, want %d", name, len(d.Rules), got, desugarE)
	}
}

func checkSources(t *testing.T, e api.Errno, sources ...string) {
	t.Helper()
	for _, src := range sources {
		checkError(t, src, programOf(t, src), e, e)
	}
}

// P6.1: ErrForm

func TestRightPrograms(t *testing.T) {
	checkSources(t, api.OK, "", "a.", "a | b :- c, not d : e; f.", "1 { p(X) : q(X) } 2 :- r.", ":~ a. [1@2,X]",
		"#const n = 1. p(n).", "#show.", "#show a/0. a.", "p(_,_) :- q(_).", "p(X) | q(a+1) :- X = a, not #sum{ X,Y : p(X) } >= 3.")
	checkError(t, "the zero program", api.Prog{}, api.OK, api.OK)
}

func TestIllFormedPrograms(t *testing.T) {
	for name, change := range map[string]func(p *api.Prog){
		"zero rule":           func(p *api.Prog) { p.Rules[0] = api.Rule{} },
		"predicate":           func(p *api.Prog) { p.Rules[0].Heads[0].Atom.Pred = "P" },
		"argument":            func(p *api.Prog) { p.Rules[0].Heads[0].Atom.Args[0].Num = 1 },
		"deep argument":       func(p *api.Prog) { p.Rules[0].Heads[0].Atom.Args[0] = tower(13, number(1)) },
		"unused bound":        func(p *api.Prog) { p.Rules[0].Lower = number(1) },
		"unused weight":       func(p *api.Prog) { p.Rules[0].Weight = number(1) },
		"kind":                func(p *api.Prog) { p.Rules[1].Kind = 4 },
		"zero literal":        func(p *api.Prog) { p.Rules[1].Body[0].Lit = api.Lit{} },
		"bound of a literal":  func(p *api.Prog) { p.Rules[1].Body[0].Bound = number(1) },
		"aggregate !=":        func(p *api.Prog) { p.Rules[1].Body[1].Op = api.OpNe },
		"zero level":          func(p *api.Prog) { p.Rules[2].Level = api.Term{} },
		"shown without Some":  func(p *api.Prog) { p.Some = false },
		"shown predicate":     func(p *api.Prog) { p.Shows[0].Name = "" },
		"arity":               func(p *api.Prog) { p.Shows[0].Arity = -1 },
		"name of a constant":  func(p *api.Prog) { p.Consts[0].Name = "N" },
		"zero constant":       func(p *api.Prog) { p.Consts[0] = api.Const{} },
		"value of a constant": func(p *api.Prog) { p.Consts[0].Val = api.Term{} },
		"large constant":      func(p *api.Prog) { p.Consts[0].Val.Num = api.MaxInt + 1 },
		"deep constant":       func(p *api.Prog) { p.Consts[0].Val = tower(13, number(1)) },
		"many rules":          func(p *api.Prog) { p.Rules = slices.Repeat(p.Rules[:1], api.MaxRules+1) },
		"many constants":      func(p *api.Prog) { p.Consts = slices.Repeat(p.Consts[:1], api.MaxRules+1) },
		"many shown":          func(p *api.Prog) { p.Shows = slices.Repeat(p.Shows[:1], api.MaxRules+1) },
		"long rule":           func(p *api.Prog) { p.Rules[0] = sizedRule(t, api.MaxSource+1, "X") },
	} {
		p := programOf(t, "p(X). { a } 1 :- b, #count{ 1 } = 1. :~ a. [1@1] #const n = 1. #show a/0.")
		checkError(t, "a right program", p, api.OK, api.OK)
		change(&p)
		checkError(t, name, p, check.ErrForm, check.ErrForm)
	}
}

// TestLongPrograms checks that a program is well-formed although its source is too long.
func TestLongPrograms(t *testing.T) {
	p := api.Prog{Rules: slices.Repeat([]api.Rule{sizedRule(t, api.MaxSource, "X")}, 3)}
	checkError(t, "three long rules", p, api.OK, api.OK)
	p.Consts = programOf(t, "#const n = 1..2.").Consts
	checkError(t, "three long rules and an interval", p, check.ErrConst, check.ErrConst)
	p.Rules = append(p.Rules, programOf(t, "1..2 { a }.").Rules...)
	checkError(t, "three long rules and two intervals", p, check.ErrRange, check.ErrRange)
}

// P6.1: ErrRange

func TestIntervals(t *testing.T) {
	for _, interval := range []string{"1..2", "X..Y", "f(1..2)", "-(1..2)", "(1..2)+1", "1-(a..b)", "(1..2)..3", "f(a,g(X,1..1))"} {
		checkSources(t, check.ErrRange,
			interval+" { a }.", "{ a } "+interval+".", "1 { a } "+interval+" :- b.", ":~ a. ["+interval+"]", ":~ a. [1@"+interval+"]",
			":- #count{ 1 } > "+interval+".", ":- #sum{ 1 } = "+interval+".", ":- not #sum{ 1 } <= "+interval+".", "a :- b, c : d; #count{ 1; 2 : e } = 1, #count{ 1 } = "+interval+".",
			"a. b. "+interval+" { a }.", "#minimize{ "+interval+" : a }.", "#minimize{ 1 : a; 1@"+interval+",X : b }.", ":~ #sum{ 1 } = "+interval+". [1]", "{ a } :- #sum{ 1 } = "+interval+".")
		checkSources(t, api.OK,
			"p("+interval+").", "{ p("+interval+") }.", "1 { a : p("+interval+"), "+interval+" = Z } 2.", "a | p("+interval+") :- b.",
			":- p("+interval+").", ":- not p("+interval+").", ":- a : p("+interval+").", ":- "+interval+" = Z, Z = "+interval+".",
			":- #count{ "+interval+",1 : p("+interval+") } = 1.", ":~ p("+interval+"). [1@1,"+interval+"]", "#minimize{ 1,"+interval+" }.")
	}
}

// P6.1: ErrConst

func TestConstants(t *testing.T) {
	checkSources(t, api.OK, "#const n = 1.", "#const n = a.", "#const n = f(a,-1).", "#const n = 7\\-2*3.", "#const n = m. #const m = 2.", "#const m = 2. #const n = m.",
		"#const n = n(1).", "#const n = f(n(1)).", "#const n = 2147483647-1.", "#const n = m(m). #const m = 1.", "#const not_ = 1.", "p(1..2). #const n = -(3).",
		"#const a = b+c. #const b = c*c. #const c = 3.", "#const p = 1. p :- p.")
	checkSources(t, check.ErrConst,
		"#const n = 1. #const n = 1.", "#const n = 1. #const m = 2. #const n = 3.", "#const n = a. #const n = b.",
		"#const n = X.", "#const n = _.", "#const n = f(a,_1).", "#const n = X-X.", "#const n = f(m,X). #const m = 1.",
		"#const n = 1..1.", "#const n = 1..2.", "#const n = f(1..1).", "#const n = m..m. #const m = 1.", "#const n = (1..1)+1.",
		"#const n = n.", "#const n = f(n).", "#const n = n+1.", "#const n = n-n.", "#const n = 0*n.", "#const n = m. #const m = n.", "#const n = m. #const m = f(k). #const k = n+1.", "#const a = 1. #const n = m+a. #const m = m.",
		"#const n = 1/0.", "#const n = 1\\0.", "#const n = b+1.", "#const n = -a.", "#const n = f(1)*2.", "#const n = 2147483647+1.", "#const n = f(1/0).", "#const n = 65536*65536.", "#const n = -(2147483647)-1.",
		"#const n = 1/m. #const m = 1-1.", "#const n = m+1. #const m = f(1).", "#const n = m+1. #const m = a.", "#const n = f(m). #const m = a+1.", "#const n = 0*m. #const m = 1/0.")
}

// TestManyConstants evaluates the longest chains.
func TestManyConstants(t *testing.T) {
	for _, c := range []struct {
		last string
		e    api.Errno
	}{{"1", api.OK}, {"n0", check.ErrConst}, {"n399", check.ErrConst}, {"a", check.ErrConst}} {
		var up, down api.Prog
		for i := range api.MaxRules {
			src := "#const n" + strconv.Itoa(i) + " = n" + strconv.Itoa(i+1) + "+1."
			if i == api.MaxRules-1 {
				src = "#const n" + strconv.Itoa(i) + " = " + c.last + "."
			}
			up.Consts = append(up.Consts, programOf(t, src).Consts...)
			down.Consts = slices.Concat(programOf(t, src).Consts, down.Consts)
		}
		checkError(t, "a chain that ends with "+c.last, up, c.e, c.e)
		checkError(t, "a reversed chain that ends with "+c.last, down, c.e, c.e)
	}
}

// TestPartsOfValues checks values at the limit of 1000 parts, and others beyond it.
func TestPartsOfValues(t *testing.T) {
	for _, parts := range []int{2, 991, 999, 1000, 1001, 1002, 1171, 5000} {
		e := api.OK
		if parts > 1000 {
			e = check.ErrConst
		}
		p := api.Prog{Consts: []api.Const{{Name: "n", Val: wide(parts)}}}
		checkError(t, strconv.Itoa(parts)+" parts", p, e, e)
		p.Consts = []api.Const{{Name: "m", Val: symbol("n")}, {Name: "n", Val: wide(parts)}}
		checkError(t, strconv.Itoa(parts)+" parts, twice", p, e, e)
		p.Consts = []api.Const{{Name: "n", Val: symbol("m")}, {Name: "m", Val: api.Term{Kind: api.TermFun, Name: "f", Args: []api.Term{symbol("k"), symbol("l")}}}, {Name: "k", Val: wide(parts - 500)}, {Name: "l", Val: wide(499)}}
		if parts > 502 {
			checkError(t, strconv.Itoa(parts)+" parts of two constants", p, e, e)
		}
	}
	checkSources(t, api.OK, "#const a = f(1,1,1,1,1,1,1,1). #const b = f(a,a,a,a,a,a,a,a). #const c = f(b,b,b,b,b,b,b,b). #const d = f(c,b,b,b,b,b,a,a).", "#const n = "+sum(11, "1")+".")
	checkSources(t, check.ErrConst, "#const a = f(1,1,1,1,1,1,1,1). #const b = f(a,a,a,a,a,a,a,a). #const c = f(b,b,b,b,b,b,b,b). #const d = f(c,b,b,b,b,b,b).")
}

// TestPartsOfOperations checks that the parts of a value count, and not those of the terms from which it is computed.
func TestPartsOfOperations(t *testing.T) {
	ones := sum(11, "m")
	checkConsts(t, "#const n = f("+ones+","+ones+","+ones+"). #const m = 1.", "#const m = 1. #const n = f(1024,1024,1024).")
}

// TestLargeDefinition evaluates a definition that is nearly as long as a source, with more than 20000 parts.
func TestLargeDefinition(t *testing.T) {
	sums := func(n int) string { return strings.Repeat(","+sum(10, "m"), n)[1:] }
	values := func(n int) string { return strings.Repeat(",512", n)[1:] }
	wide := bush(4, "1")
	checkConsts(t, "#const m = 1. #const n = f(c,f("+sums(8)+"),f("+sums(8)+"),f("+sums(4)+")). #const c = "+wide+".",
		"#const c = "+wide+". #const m = 1. #const n = f("+wide+",f("+values(8)+"),f("+values(8)+"),f("+values(4)+")).")
}

// TestEndlessValues evaluates constants whose values would not fit into memory.
func TestEndlessValues(t *testing.T) {
	src := "#const n0 = f(1,1,1,1,1,1,1,1). "
	for i := range 10 {
		n := "n" + strconv.Itoa(i)
		src += "#const n" + strconv.Itoa(i+1) + " = f(" + n + strings.Repeat(","+n, 7) + "). "
	}
	checkSources(t, check.ErrConst, src)
	wide := "#const c = f(b,b,b,b,b,b,b,b). #const b = f(a,a,a,a,a,a,a,a). #const a = f(1,1,1,1,1,1,1,1). #const n = "
	checkSources(t, check.ErrConst, wide+bush(4, "c")+".", wide+sum(11, "c")+".", wide+"f("+sum(11, "c")+").")
}

func TestDepthOfValues(t *testing.T) {
	for _, c := range []struct {
		outer, inner int
		e            api.Errno
	}{{6, 7, api.OK}, {6, 8, check.ErrConst}, {1, 12, api.OK}, {2, 12, check.ErrConst}, {12, 1, api.OK}, {12, 2, check.ErrConst}} {
		p := api.Prog{Consts: []api.Const{{Name: "n", Val: tower(c.outer, symbol("m"))}, {Name: "m", Val: tower(c.inner, number(1))}}}
		checkError(t, strconv.Itoa(c.outer)+" and "+strconv.Itoa(c.inner), p, c.e, c.e)
	}
}

// P6.1: the order of errors

func TestOrderOfErrors(t *testing.T) {
	p := programOf(t, "1..2 { a }. #const n = n.")
	checkError(t, "an interval and a constant", p, check.ErrRange, check.ErrRange)
	p.Shows = []api.Sig{{Name: "a"}}
	checkError(t, "all errors", p, check.ErrForm, check.ErrForm)
	p = programOf(t, "#const n = f(f(1)). #const m = 1..2.")
	p.Rules = []api.Rule{{Kind: api.RuleDisj, Heads: []api.Head{{Atom: api.Atom{Pred: "p", Args: []api.Term{tower(12, symbol("n"))}}}}}}
	checkError(t, "a constant, and a term that would be too deep", p, check.ErrConst, check.ErrConst)
	p.Consts = p.Consts[:1]
	checkError(t, "a term that becomes too deep", p, api.OK, api.ErrMany)
	p.Rules = append(p.Rules, programOf(t, ":~ a. [1@1..2]").Rules...)
	checkError(t, "an interval, and a term that would be too deep", p, check.ErrRange, check.ErrRange)
}

// R5

func TestEmptySlices(t *testing.T) {
	checkError(t, "empty slices", api.Prog{Rules: []api.Rule{}, Consts: []api.Const{}, Shows: []api.Sig{}}, api.OK, api.OK)
	a := programOf(t, "a.")
	b := programOf(t, "a.")
	b.Rules[0].Heads[0].Atom.Args, b.Rules[0].Heads[0].Cond, b.Rules[0].Body, b.Rules[0].Tuple = []api.Term{}, []api.Lit{}, []api.Body{}, []api.Term{}
	checkError(t, "empty slices in a rule", b, api.OK, api.OK)
	if d, _ := check.Desugar(b); !format.Same(d, a) {
		t.Error("an empty slice changes the result")
	}
}

// R1

// TestSharedParts checks programs that are small but have endless sources.
func TestSharedParts(t *testing.T) {
	endless := make([]api.Term, 1)
	endless[0] = api.Term{Kind: api.TermFun, Name: "f", Args: endless}
	rules := []api.Rule{{Kind: api.RuleDisj, Heads: []api.Head{{Atom: api.Atom{Pred: "p", Args: endless}}}}, {Kind: api.RuleChoice, Heads: []api.Head{{Atom: api.Atom{Pred: "p"}}}, Upper: endless[0]}}
	checkError(t, "an endless argument", api.Prog{Rules: rules[:1]}, check.ErrForm, check.ErrForm)
	checkError(t, "an endless bound", api.Prog{Rules: rules[1:]}, check.ErrForm, check.ErrForm)
	checkError(t, "an endless constant", api.Prog{Consts: []api.Const{{Name: "n", Val: endless[0]}}}, check.ErrForm, check.ErrForm)
	checkError(t, "a deep constant", api.Prog{Consts: []api.Const{{Name: "n", Val: tower(1<<16, number(1))}}}, check.ErrForm, check.ErrForm)
}
