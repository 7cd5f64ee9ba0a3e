package arith

import (
	"math"
	"slices"
	"strings"
	"testing"

	"ostler/api"
	"ostler/term"
)

func num(n int) api.Term { return api.Term{Kind: api.TermInt, Num: n} }

func sym(s string) api.Term { return api.Term{Kind: api.TermSym, Name: s} }

func variable(s string) api.Term { return api.Term{Kind: api.TermVar, Name: s} }

func fun(s string, args ...api.Term) api.Term {
	return api.Term{Kind: api.TermFun, Name: s, Args: args}
}

func op(s string, args ...api.Term) api.Term {
	return api.Term{Kind: api.TermOp, Name: s, Args: args}
}

func span(args ...api.Term) api.Term {
	return api.Term{Kind: api.TermRange, Args: args}
}

func interval(a, b int) api.Term { return span(num(a), num(b)) }

// tower returns a term of the given depth with one argument at each level.
func tower(depth int, inner api.Term) api.Term {
	t := inner
	for range depth - 1 {
		t = fun("f", t)
	}
	return t
}

// texts returns the texts of values, separated by spaces.
func texts(values []api.Term) string {
	var l []string
	for _, v := range values {
		l = append(l, term.String(v))
	}
	return strings.Join(l, " ")
}

// P2.1

func TestCalc(t *testing.T) {
	const greatest = api.MaxInt
	for i, c := range []struct {
		op   string
		a    []int
		want int
		ok   bool
	}{
		{"+", []int{3, 4}, 7, true}, {"-", []int{3, 4}, -1, true}, {"*", []int{-3, 4}, -12, true}, {"-", []int{5}, -5, true}, {"-", []int{0}, 0, true},
		{"/", []int{7, 2}, 3, true}, {"/", []int{-7, 2}, -3, true}, {"/", []int{7, -2}, -3, true}, {"/", []int{-7, -2}, 3, true}, {"/", []int{0, 5}, 0, true},
		{"\\", []int{7, 2}, 1, true}, {"\\", []int{-7, 2}, -1, true}, {"\\", []int{7, -2}, 1, true}, {"\\", []int{-7, -2}, -1, true}, {"\\", []int{6, 3}, 0, true},
		{"/", []int{1, 0}, 0, false}, {"/", []int{0, 0}, 0, false}, {"\\", []int{1, 0}, 0, false}, {"\\", []int{0, 0}, 0, false},
		{"+", []int{greatest, 0}, greatest, true}, {"+", []int{greatest, 1}, 0, false}, {"+", []int{-greatest, 0}, -greatest, true}, {"+", []int{-greatest, -1}, 0, false},
		{"-", []int{-greatest, 1}, 0, false}, {"-", []int{greatest, -1}, 0, false}, {"-", []int{0, greatest}, -greatest, true}, {"-", []int{greatest}, -greatest, true}, {"-", []int{-greatest}, greatest, true},
		{"*", []int{46340, 46340}, 2147395600, true}, {"*", []int{46341, 46341}, 0, false}, {"*", []int{46341, -46341}, 0, false}, {"*", []int{greatest, greatest}, 0, false}, {"*", []int{-greatest, -1}, greatest, true},
		{"/", []int{-greatest, -1}, greatest, true}, {"/", []int{greatest, greatest}, 1, true}, {"\\", []int{-greatest, -1}, 0, true}, {"\\", []int{-greatest, greatest - 1}, -1, true},
		{"+", []int{greatest + 1, -1}, 0, false}, {"+", []int{-1, greatest + 1}, 0, false}, {"-", []int{-greatest - 1, -1}, 0, false}, {"-", []int{5, greatest + 1}, 0, false}, {"-", []int{greatest + 1}, 0, false}, {"-", []int{-greatest - 1}, 0, false},
		{"*", []int{greatest + 1, 0}, 0, false}, {"*", []int{0, -greatest - 1}, 0, false}, {"/", []int{greatest + 1, 2}, 0, false}, {"/", []int{2, greatest + 1}, 0, false}, {"\\", []int{greatest + 1, 2}, 0, false}, {"\\", []int{2, -greatest - 1}, 0, false},
		{"*", []int{1 << 62, 4}, 0, false}, {"*", []int{1 << 32, 1 << 32}, 0, false}, {"+", []int{math.MaxInt, math.MinInt}, 0, false}, {"+", []int{math.MinInt, math.MinInt}, 0, false}, {"-", []int{math.MinInt}, 0, false}, {"-", []int{math.MinInt, math.MinInt}, 0, false}, {"/", []int{math.MinInt, -1}, 0, false}, {"\\", []int{math.MinInt, -1}, 0, false},
		{"+", []int{1}, 0, false}, {"*", []int{1}, 0, false}, {"/", []int{1}, 0, false}, {"\\", []int{1}, 0, false},
		{"+", nil, 0, false}, {"-", nil, 0, false}, {"*", nil, 0, false}, {"+", []int{1, 2, 3}, 0, false}, {"-", []int{1, 2, 3}, 0, false}, {"*", make([]int, 1000), 0, false},
		{"", nil, 0, false}, {"", []int{1}, 0, false}, {"", []int{1, 2}, 0, false}, {"^", []int{1, 2}, 0, false}, {"%", []int{7, 2}, 0, false}, {"..", []int{1, 2}, 0, false}, {"+ ", []int{1, 2}, 0, false}, {"--", []int{1}, 0, false}, {"+\x00", []int{1, 2}, 0, false}, {"f", []int{1, 2}, 0, false},
	} {
		if n, ok := Calc(c.op, c.a...); n != c.want || ok != c.ok {
			t.Errorf("%d: %q %v: %d, %v", i, c.op, c.a, n, ok)
		}
	}
}

// TestQuotientAndRemainder compares divisions with divisions of absolute values.
func TestQuotientAndRemainder(t *testing.T) {
	l := []int{-api.MaxInt, 1 - api.MaxInt, -65536, -3, -2, -1, 1, 2, 3, 10, 65535, api.MaxInt - 1, api.MaxInt}
	for _, a := range append(l, 0) {
		for _, b := range l {
			size, sign := max(a, -a)/max(b, -b), 1
			if (a < 0) != (b < 0) {
				sign = -1
			}
			if q, ok := Calc("/", a, b); !ok || q != sign*size {
				t.Errorf("%d / %d: %d, %v", a, b, q, ok)
			}
			if r, ok := Calc("\\", a, b); !ok || r != a-sign*size*b {
				t.Errorf("%d \\ %d: %d, %v", a, b, r, ok)
			}
		}
	}
}

// P2.2

func TestEval(t *testing.T) {
	one, zero := num(1), num(0)
	for i, c := range []struct {
		t    api.Term
		want api.Term
	}{
		{num(4), num(4)}, {num(-api.MaxInt), num(-api.MaxInt)}, {sym("a"), sym("a")}, {fun("f", sym("a"), num(-2)), fun("f", sym("a"), num(-2))},
		{op("+", one, num(2)), num(3)}, {op("-", num(2), num(5)), num(-3)}, {op("-", num(2)), num(-2)}, {op("-", num(-2)), num(2)}, {op("*", num(2), num(-3)), num(-6)}, {op("/", num(7), num(-2)), num(-3)}, {op("\\", num(-7), num(2)), num(-1)},
		{op("*", op("+", one, num(2)), op("\\", num(9), num(5))), num(12)}, {op("-", op("-", op("-", num(7)))), num(-7)},
		{fun("f", op("-", op("*", num(2), num(3)), one), sym("a")), fun("f", num(5), sym("a"))}, {fun("f", fun("g", op("+", one, one)), op("-", num(3))), fun("f", fun("g", num(2)), num(-3))},
		{tower(12, one), tower(12, one)}, {tower(11, op("+", one, one)), tower(11, num(2))},
		{op("+", num(api.MaxInt), zero), num(api.MaxInt)}, {op("+", op("-", num(api.MaxInt), one), one), num(api.MaxInt)},
	} {
		if v, ok := Eval(c.t); !ok || !term.Equal(v, c.want) {
			t.Errorf("%d: %s: %s, %v", i, term.String(c.t), term.String(v), ok)
		}
	}
}

func TestEvalWithoutValue(t *testing.T) {
	one, zero, x := num(1), num(0), variable("X")
	for i, v := range []api.Term{
		op("+", sym("a"), one), op("+", one, sym("a")), op("-", sym("a")), op("-", fun("f", one)), op("*", zero, fun("f", one)),
		op("/", one, zero), op("\\", one, zero), op("/", one, op("-", one, one)), fun("f", sym("a"), op("/", one, zero)), op("*", zero, op("/", one, zero)),
		op("+", num(api.MaxInt), one), op("-", num(-api.MaxInt), one), op("-", op("+", num(api.MaxInt), one), one), op("*", num(65536), num(65536)),
		x, op("+", x, one), fun("f", x), op("*", zero, x), variable("_"),
		interval(1, 1), fun("f", interval(1, 1)), op("+", interval(1, 1), one), interval(2, 1), fun("f", one, interval(2, 1)), interval(1, 5), interval(1, 5000),
		{}, {Kind: 7}, {Kind: 255, Args: []api.Term{one}}, num(api.MaxInt + 1), num(-api.MaxInt - 1), sym("A"), sym("not"), sym(""), fun("f"), fun("F", one), fun("f", one, one, one, one, one, one, one, one, one),
		{Kind: api.TermInt, Num: 1, Name: "a"}, {Kind: api.TermInt, Num: 1, Args: []api.Term{one}}, {Kind: api.TermSym, Name: "a", Num: 1}, fun("f", api.Term{}), span(one), span(),
		op("+", one), op("-"), op("%", one, one), op("", one, one), op("-", one, one, one), tower(13, one), tower(12, op("+", one, one)), tower(1<<16, one), op("+", num(api.MaxInt+1), num(-5)),
	} {
		if v, ok := Eval(v); ok || !term.Equal(v, api.Term{}) {
			t.Errorf("%d: %v, %v", i, v, ok)
		}
	}
}

// P2.3

func TestExpand(t *testing.T) {
	one, a := num(1), sym("a")
	for i, c := range []struct {
		t    api.Term
		want string
	}{
		{num(-7), "-7"}, {a, "a"}, {fun("f", a, fun("g", one)), "f(a,g(1))"}, {op("+", one, num(2)), "3"}, {op("+", a, one), ""}, {op("/", one, num(0)), ""}, {fun("f", op("/", one, num(0))), ""},
		{interval(-1, 2), "-1 0 1 2"}, {interval(5, 5), "5"}, {interval(3, 1), ""}, {interval(2, 1), ""}, {interval(api.MaxInt, -api.MaxInt), ""}, {interval(api.MaxInt-1, api.MaxInt), "2147483646 2147483647"}, {interval(-api.MaxInt, 1-api.MaxInt), "-2147483647 -2147483646"},
		{span(a, num(3)), ""}, {span(one, a), ""}, {span(fun("f", one), num(3)), ""}, {span(one, op("/", one, num(0))), ""}, {span(interval(3, 1), num(5)), ""}, {span(one, interval(3, 1)), ""}, {span(op("-", num(2)), op("+", one, one)), "-2 -1 0 1 2"},
		{span(interval(1, 2), interval(3, 4)), "1 2 3 4"}, {span(interval(4, 6), interval(1, 5)), "4 5"}, {span(op("*", interval(1, 2), num(10)), op("*", interval(-1, 1), num(12))), "10 11 12"},
		{op("*", interval(-2, 2), interval(-2, 2)), "-4 -2 -1 0 1 2 4"}, {op("+", interval(1, 2), op("*", interval(0, 1), num(10))), "1 2 11 12"}, {op("-", interval(1, 2), interval(1, 2)), "-1 0 1"}, {op("-", interval(1, 3)), "-3 -2 -1"},
		{op("/", num(6), interval(-1, 3)), "-6 2 3 6"}, {op("\\", interval(-3, 3), num(3)), "-2 -1 0 1 2"}, {op("/", interval(0, 3), num(0)), ""}, {op("+", interval(1, 3), num(api.MaxInt-2)), "2147483646 2147483647"}, {op("+", interval(1, 2), a), ""}, {op("+", interval(2, 1), one), ""},
		{fun("f", interval(1, 2), op("*", interval(1, 3), num(2))), "f(1,2) f(1,4) f(1,6) f(2,2) f(2,4) f(2,6)"}, {fun("f", interval(1, 2), interval(2, 1)), ""}, {fun("f", interval(2, 1), interval(1, 2)), ""},
		{fun("f", interval(9, 10), a), "f(9,a) f(10,a)"}, {fun("f", fun("g", op("-", interval(1, 2))), interval(0, 1)), "f(g(-2),0) f(g(-2),1) f(g(-1),0) f(g(-1),1)"}, {fun("f", op("*", num(0), interval(1, 3)), interval(1, 2)), "f(0,1) f(0,2)"},
		{tower(11, interval(1, 2)), texts([]api.Term{tower(11, one), tower(11, num(2))})},
	} {
		if l, e := Expand(c.t); texts(l) != c.want || e != api.OK {
			t.Errorf("%d: %s: %s, error %d", i, term.String(c.t), texts(l), e)
		}
	}
}

// TestExpandLimit checks terms with 1000 expansions, and with one more.
func TestExpandLimit(t *testing.T) {
	thousand, many := interval(1, 1000), interval(1, 1001)
	two, ten, none := interval(1, 2), interval(1, 10), interval(2, 1)
	for i, c := range []struct {
		t    api.Term
		want int
	}{
		{thousand, 1000}, {interval(-api.MaxInt, 999-api.MaxInt), 1000}, {op("-", thousand), 1000}, {fun("f", thousand), 1000}, {fun("f", ten, ten, ten), 1000}, {fun("f", ten, sym("a"), fun("g", ten, ten)), 1000}, {op("+", interval(1, 500), interval(1, 501)), 1000}, {op("+", op("*", num(100), interval(0, 9)), interval(1, 100)), 1000},
		{op("*", thousand, num(0)), 1}, {op("\\", thousand, thousand), 1000}, {op("*", thousand, op("-", thousand, thousand)), -1}, {op("-", thousand, thousand), -1}, {op("/", thousand, thousand), -1},
		{many, -1}, {interval(-api.MaxInt, 1000-api.MaxInt), -1}, {interval(-api.MaxInt, api.MaxInt), -1}, {op("-", many), -1}, {fun("f", many), -1}, {fun("f", ten, ten, interval(1, 11)), -1}, {op("+", interval(1, 501), interval(1, 501)), -1}, {fun("f", thousand, two), -1}, {span(num(1), interval(1, 1000)), 1000}, {span(num(0), interval(1, 1000)), -1},
		{op("*", many, num(0)), -1}, {op("/", num(0), many), -1}, {op("+", many, sym("a")), -1}, {op("+", sym("a"), many), -1}, {op("/", many, num(0)), -1}, {fun("f", many, none), -1}, {fun("f", none, many), -1}, {op("+", none, many), -1}, {op("*", fun("f", many), num(1)), -1}, {fun("f", none, fun("g", ten, ten, interval(1, 11))), -1},
		{span(many, num(1)), -1}, {span(num(5), many), -1}, {span(num(2000), many), -1}, {span(sym("a"), many), -1}, {span(many, none), -1},
		{fun("f", thousand, thousand, thousand, thousand, thousand, thousand, thousand, none), 0}, {fun("f", none, thousand, thousand, thousand, thousand, thousand, thousand, thousand), 0}, {op("+", thousand, none), 0}, {fun("f", thousand, thousand, thousand, thousand, thousand, thousand, thousand, thousand), -1}, {tower(11, thousand), 1000}, {tower(11, many), -1},
	} {
		l, e := Expand(c.t)
		if c.want < 0 && (len(l) != 0 || e != api.ErrMany) || c.want >= 0 && (len(l) != c.want || e != api.OK) {
			t.Errorf("%d: %s: %d expansions, error %d", i, term.String(c.t), len(l), e)
		}
	}
}

func TestExpandInvalid(t *testing.T) {
	one, x, many := num(1), variable("X"), interval(1, 1001)
	for i, v := range []api.Term{
		x, variable("_"), fun("f", x), op("+", one, x), span(one, x), span(x, one), fun("f", interval(2, 1), x), fun("f", many, x), op("/", x, num(0)),
		{}, {Kind: 7}, {Kind: 255}, num(api.MaxInt + 1), sym("A"), sym("not"), fun("f"), fun("f", api.Term{}), fun("f", many, api.Term{}), span(many), span(many, one, one), op("+", many), op("-", many, one, one), op("%", many, one), fun("F", many),
		{Kind: api.TermRange, Name: "a", Args: []api.Term{one, one}}, {Kind: api.TermRange, Num: 1, Args: []api.Term{one, one}}, {Kind: api.TermInt, Num: 1, Name: "a"}, span(one, num(api.MaxInt+1)), tower(13, one), tower(12, many), tower(1<<16, one), variable("a"), fun("f", many, many, many, many, many, many, many, many, many),
	} {
		if l, e := Expand(v); len(l) != 0 || e != api.ErrArg {
			t.Errorf("%d: %s, error %d", i, texts(l), e)
		}
	}
}

// P2.3 and P2.4

// family returns all terms that one of the forms makes of the given parts.
func family(parts []api.Term) []api.Term {
	l := slices.Clone(parts)
	for _, a := range parts {
		l = append(l, fun("f", a), op("-", a))
		for _, b := range parts {
			l = append(l, fun("f", a, b), span(a, b))
			for _, s := range []string{"+", "-", "*", "/", "\\"} {
				l = append(l, op(s, a, b))
			}
		}
	}
	return l
}

// samples returns terms of depth at most 4, most of them with intervals.
func samples() []api.Term {
	inner := family([]api.Term{num(0), num(2), num(-3), sym("a"), interval(-1, 1), interval(1, 0)})
	l := family(inner[:40])
	for i, a := range inner {
		l = append(l, fun("g", a, inner[(i*7+5)%len(inner)], a), op("\\", a, inner[(i*11+3)%len(inner)]))
	}
	return l
}

// set contains terms by their texts.
type set map[string]api.Term

// byDefinition computes the expansions of a small term as the chapter defines them, without an order.
func byDefinition(t api.Term) set {
	if len(t.Args) == 0 {
		return set{term.String(t): t}
	}
	choices := [][]api.Term{nil}
	for _, a := range t.Args {
		var longer [][]api.Term
		for _, c := range choices {
			for _, v := range byDefinition(a) {
				longer = append(longer, append(slices.Clone(c), v))
			}
		}
		choices = longer
	}
	s := set{}
	for _, c := range choices {
		for _, v := range outcomes(t, c) {
			s[term.String(v)] = v
		}
	}
	return s
}

// outcomes returns what one choice of values of the arguments contributes to the expansions of t.
func outcomes(t api.Term, args []api.Term) []api.Term {
	if t.Kind == api.TermFun {
		return []api.Term{fun(t.Name, args...)}
	}
	var n []int
	for _, a := range args {
		if a.Kind != api.TermInt {
			return nil
		}
		n = append(n, a.Num)
	}
	if t.Kind == api.TermOp {
		if r, ok := Calc(t.Name, n...); ok {
			return []api.Term{num(r)}
		}
		return nil
	}
	var l []api.Term
	for i := n[0]; i <= n[1]; i++ {
		l = append(l, num(i))
	}
	return l
}

func TestExpandByDefinition(t *testing.T) {
	for _, v := range samples() {
		l, e := Expand(v)
		want := byDefinition(v)
		if e != api.OK || len(l) != len(want) {
			t.Fatalf("%s: %s, error %d", term.String(v), texts(l), e)
		}
		for i, x := range l {
			if _, found := want[term.String(x)]; !found || !term.Value(x) || i > 0 && term.Compare(l[i-1], x) >= 0 {
				t.Fatalf("%s: %s", term.String(v), texts(l))
			}
		}
	}
}

func TestEvalAgreesWithExpand(t *testing.T) {
	none, some := 0, 0
	for _, v := range append(samples(), variable("X"), api.Term{}, interval(1, 5000), op("+", num(1), variable("X"))) {
		l, e := Expand(v)
		one, ok := Eval(v)
		if ok != (e == api.OK && len(l) == 1 && !strings.Contains(term.String(v), "..")) {
			t.Fatalf("%s: %v, %s, error %d", term.String(v), ok, texts(l), e)
		}
		if ok && !term.Equal(one, l[0]) || !ok && !term.Equal(one, api.Term{}) {
			t.Fatalf("%s: %s, but %s", term.String(v), term.String(one), texts(l))
		}
		if ok {
			some++
		} else {
			none++
		}
	}
	if none == 0 || some == 0 {
		t.Error("the samples are one-sided", none, some)
	}
}

// replacements returns the terms in which one interval of t, with integers as its ends, is replaced by one of its integers.
func replacements(t api.Term) []api.Term {
	var l []api.Term
	if t.Kind == api.TermRange && t.Args[0].Kind == api.TermInt && t.Args[1].Kind == api.TermInt {
		for n := t.Args[0].Num; n <= t.Args[1].Num; n++ {
			l = append(l, num(n))
		}
	}
	for i, a := range t.Args {
		for _, r := range replacements(a) {
			v := t
			v.Args = slices.Clone(t.Args)
			v.Args[i] = r
			l = append(l, v)
		}
	}
	return l
}

func TestReplacedIntervals(t *testing.T) {
	tried := 0
	for _, v := range samples() {
		all, _ := Expand(v)
		for _, r := range replacements(v) {
			l, e := Expand(r)
			for _, x := range l {
				tried++
				if _, found := slices.BinarySearchFunc(all, x, term.Compare); !found {
					t.Fatalf("%s is an expansion of %s, but not of %s", term.String(x), term.String(r), term.String(v))
				}
			}
			if e != api.OK {
				t.Fatalf("%s: error %d", term.String(r), e)
			}
		}
	}
	if tried == 0 {
		t.Error("no sample contains an interval")
	}
}

// TestExample is the example of the chapter.
func TestExample(t *testing.T) {
	for want, a := range map[int][3]any{-3: {"/", 7, -2}, 1: {"\\", 7, -2}, -1: {"\\", -7, 2}} {
		if n, ok := Calc(a[0].(string), a[1].(int), a[2].(int)); n != want || !ok {
			t.Error(a, n, ok)
		}
	}
	v, ok := Eval(fun("f", op("-", op("*", num(2), num(3)), num(1)), sym("a")))
	if term.String(v) != "f(5,a)" || !ok {
		t.Error(term.String(v), ok)
	}
	for want, v := range map[string]api.Term{
		"f(1,2) f(1,4) f(1,6) f(2,2) f(2,4) f(2,6)": fun("f", interval(1, 2), op("*", interval(1, 3), num(2))),
		"":        interval(3, 1),
		"1 2 3 4": span(interval(1, 2), interval(3, 4)),
	} {
		if l, e := Expand(v); texts(l) != want || e != api.OK {
			t.Errorf("%s, error %d, want %s", texts(l), e, want)
		}
	}
}

// R3

// spoil overwrites a term and all of its arguments, with their spare capacity.
func spoil(t *api.Term) {
	for i := range t.Args[:cap(t.Args)] {
		spoil(&t.Args[:cap(t.Args)][i])
	}
	*t = sym("spoilt")
}

func TestNoSharedMemory(t *testing.T) {
	build := func() api.Term {
		pair := []api.Term{sym("a"), op("-", num(3)), num(99), num(98)}
		inner := api.Term{Kind: api.TermFun, Name: "g", Args: pair[:2]}
		return fun("f", inner, inner, interval(1, 3), api.Term{Kind: api.TermInt, Num: 4, Args: []api.Term{num(97)}[:0]})
	}
	want := "f(g(a,-3),g(a,-3),1,4) f(g(a,-3),g(a,-3),2,4) f(g(a,-3),g(a,-3),3,4)"
	v := build()
	first, _ := Expand(v)
	spoil(&first[0].Args[0])
	if got := texts(first); got != strings.Replace(want, "g(a,-3)", "spoilt", 1) {
		t.Error("results share memory with each other:", got)
	}
	second, _ := Expand(v)
	for i := range first {
		spoil(&first[i])
	}
	if texts(second) != want || !term.Equal(v, build()) {
		t.Error("a result shares memory with the argument or with another result:", texts(second), term.String(v))
	}
	if spare := v.Args[0].Args[:4]; spare[2].Num != 99 || spare[3].Num != 98 || v.Args[3].Args[:1][0].Num != 97 {
		t.Error("the spare capacity of an argument changed:", spare)
	}
	v = fun("f", fun("g", sym("a"), num(1)))
	one, _ := Eval(v)
	spoil(&one)
	if term.String(v) != "f(g(a,1))" {
		t.Error("the result of Eval shares memory with the argument:", term.String(v))
	}
}

func TestOperandsStay(t *testing.T) {
	operands := []int{7, 2, 99}
	for _, s := range []string{"+", "-", "*", "/", "\\"} {
		Calc(s, operands[:2]...)
		Calc(s, operands[:1]...)
	}
	if !slices.Equal(operands, []int{7, 2, 99}) {
		t.Error(operands)
	}
}
