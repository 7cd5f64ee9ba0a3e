package term

import (
	"math"
	"slices"
	"strings"
	"testing"

	"ostler/api"
)

func num(n int) api.Term { return api.Term{Kind: api.TermInt, Num: n} }

func sym(s string) api.Term { return api.Term{Kind: api.TermSym, Name: s} }

func variable(s string) api.Term { return api.Term{Kind: api.TermVar, Name: s} }

func fun(s string, args ...api.Term) api.Term {
	return api.Term{Kind: api.TermFun, Name: s, Args: args}
}

func op(s string, args ...api.Term) api.Term {
	return api.Term{Kind: api.TermOp, Name: s, Args: args}
}

func span(args ...api.Term) api.Term {
	return api.Term{Kind: api.TermRange, Args: args}
}

// tower returns a term of the given depth with one argument at each level.
func tower(depth int, inner api.Term) api.Term {
	t := inner
	for range depth - 1 {
		t = fun("f", t)
	}
	return t
}

// family returns all terms that one of the forms makes of the given parts.
func family(parts []api.Term) []api.Term {
	var l []api.Term
	for _, a := range parts {
		l = append(l, fun("f", a), op("-", a))
		for _, b := range parts {
			l = append(l, fun("f", a, b), fun("g", a, b), span(a, b))
			for _, s := range []string{"+", "-", "*", "/", "\\"} {
				l = append(l, op(s, a, b))
			}
		}
	}
	return l
}

// P1.1

func TestSymbol(t *testing.T) {
	for _, s := range []string{"a", "z", "_a", "___b", "aB_9", "n", "no", "nott", "_not", "nOT", "a__", strings.Repeat("z", 32), strings.Repeat("_", 31) + "z"} {
		if !Symbol(s) {
			t.Errorf("%q is a symbol name", s)
		}
	}
	for _, s := range []string{"", "not", "_", "__", "_1", "1", "9a", "A", "_A", "_1a", "a-", "-a", "a b", " a", "a\n", "a\x00", "é", "aé", "a\xff", "`", "{", "@", "[", strings.Repeat("z", 33), strings.Repeat("_", 32) + "z", strings.Repeat("a", 1<<20)} {
		if Symbol(s) {
			t.Errorf("%q is not a symbol name", s)
		}
	}
}

func TestVariable(t *testing.T) {
	for _, s := range []string{"A", "Z", "_X", "___B", "Xy_9", "X__", "_", "_0", "_00", "_9", "_123", strings.Repeat("Z", 32), strings.Repeat("_", 31) + "Z", "_" + strings.Repeat("7", 31)} {
		if !Variable(s) {
			t.Errorf("%q is a variable name", s)
		}
	}
	for _, s := range []string{"", "a", "_a", "__", "__1", "_1_", "_1a", "_1X", "1", "0", "1X", "X-", " X", "X ", "_ ", "_-1", "É", "XÉ", "X\x00", "`", "{", "@", "[", "/", ":", "_/", "_:", strings.Repeat("X", 33), "_" + strings.Repeat("7", 32), "_" + strings.Repeat("7", 1<<20)} {
		if Variable(s) {
			t.Errorf("%q is not a variable name", s)
		}
	}
}

// TestNameBytes compares every name of one and two bytes with the definition.
func TestNameBytes(t *testing.T) {
	const letters = "abcdefghijklmnopqrstuvwxyz"
	const follow = letters + "ABCDEFGHIJKLMNOPQRSTUVWXYZ0123456789_"
	in := func(set string, c int) bool { return strings.IndexByte(set, byte(c)) >= 0 }
	for c := range 256 {
		one := string([]byte{byte(c)})
		if Symbol(one) != in(letters, c) || Variable(one) != (in(strings.ToUpper(letters), c) || c == '_') {
			t.Errorf("%q", one)
		}
		if Symbol("a"+one) != in(follow, c) || Variable("X"+one) != in(follow, c) {
			t.Errorf("%q behind a letter", one)
		}
		if Symbol("_"+one) != in(letters, c) || Variable("_"+one) != (in(strings.ToUpper(letters), c) || in("0123456789", c)) {
			t.Errorf("%q behind an underscore", one)
		}
	}
}

func TestDepth(t *testing.T) {
	for _, c := range []struct {
		t    api.Term
		want int
	}{
		{api.Term{}, 1},
		{num(1), 1},
		{fun("f"), 1},
		{fun("f", num(1)), 2},
		{fun("f", num(1), fun("g", num(2)), num(3)), 3},
		{fun("f", fun("g", fun("h", sym("a"))), num(3)), 4},
		{op("-", op("+", fun("f", variable("X"), num(1)), num(2)), num(3)), 4},
		{api.Term{Kind: 99, Args: []api.Term{{Kind: 98, Args: []api.Term{{}}}}}, 3},
		{tower(12, num(1)), 12},
		{tower(1<<16, num(1)), 1 << 16},
	} {
		if got := Depth(c.t); got != c.want {
			t.Errorf("depth %d, want %d", got, c.want)
		}
	}
}

func TestValid(t *testing.T) {
	x, one := variable("X"), num(1)
	eight := []api.Term{one, one, one, one, one, one, one, one}
	for i, v := range []api.Term{
		num(0), num(api.MaxInt), num(-api.MaxInt), sym("a"), sym("_a"), x, variable("_"), variable("_7"),
		fun("f", one), fun("f", eight...), fun("_f", x, span(one, x)),
		op("+", one, x), op("-", one, x), op("*", one, x), op("/", one, x), op("\\", one, x), op("-", x),
		op("+", sym("a"), fun("f", one)), span(one, x), span(span(one, one), op("-", x)),
		{Kind: api.TermSym, Name: "a", Args: []api.Term{}}, tower(12, one), tower(11, op("-", x)),
	} {
		if !Valid(v) {
			t.Errorf("%d: %v is valid", i, v)
		}
	}
	for i, v := range []api.Term{
		{}, {Kind: 7}, {Kind: 255, Name: "a"}, {Name: "a"},
		num(api.MaxInt + 1), num(-api.MaxInt - 1), num(math.MaxInt), num(math.MinInt),
		{Kind: api.TermInt, Name: "a"}, {Kind: api.TermInt, Args: []api.Term{one}},
		sym(""), sym("X"), sym("not"), {Kind: api.TermSym, Name: "a", Num: 1}, {Kind: api.TermSym, Name: "a", Args: []api.Term{one}},
		variable(""), variable("a"), {Kind: api.TermVar, Name: "X", Num: 1}, {Kind: api.TermVar, Name: "X", Args: []api.Term{one}},
		fun("f"), fun("f", append(slices.Clone(eight), one)...), fun("F", one), fun("", one), fun("not", one), {Kind: api.TermFun, Name: "f", Num: 1, Args: []api.Term{one}},
		op("-"), op("+", one), op("*", one), op("/", one), op("\\", one), op("-", one, one, one), op("+", one, one, one), op("%", one, one), op("", one, one), op("", one), op("--", one), op("..", one, one), {Kind: api.TermOp, Name: "+", Num: 1, Args: []api.Term{one, one}},
		span(), span(one), span(one, one, one), {Kind: api.TermRange, Name: "..", Args: []api.Term{one, one}}, {Kind: api.TermRange, Num: 1, Args: []api.Term{one, one}},
		fun("f", one, api.Term{}), op("+", one, sym("X")), span(variable("a"), one), tower(5, num(api.MaxInt+1)),
		tower(13, one), tower(12, op("-", x)), tower(1<<16, one),
	} {
		if Valid(v) || Value(v) {
			t.Errorf("%d: kind %d, name %q is not valid", i, v.Kind, v.Name)
		}
	}
}

func TestValueAndGround(t *testing.T) {
	x, one := variable("X"), num(1)
	for i, c := range []struct {
		t             api.Term
		value, ground bool
	}{
		{one, true, true}, {sym("a"), true, true}, {fun("f", one, fun("g", sym("a"))), true, true}, {tower(12, one), true, true},
		{tower(13, one), false, true}, {num(api.MaxInt + 1), false, true}, {sym("X"), false, true}, {api.Term{}, false, true}, {fun("f"), false, true},
		{x, false, false}, {variable("_"), false, false}, {fun("f", one, x), false, false}, {fun("f", fun("g", x), one), false, false},
		{op("+", one, one), false, true}, {fun("f", op("-", one)), false, true}, {span(one, one), false, true}, {fun("f", span(one, num(2))), false, true},
		{op("+", one, x), false, false}, {span(x, one), false, false},
		{variable("a"), false, false}, {api.Term{Kind: 9, Args: []api.Term{x}}, false, false}, {api.Term{Kind: api.TermSym, Name: "a", Args: []api.Term{x}}, false, false}, {tower(1<<16, x), false, false}, {tower(1<<16, one), false, true},
	} {
		if Value(c.t) != c.value || Ground(c.t) != c.ground {
			t.Error(i, Value(c.t), Ground(c.t))
		}
	}
}

// P1.2

// ordered is an increasing list of terms, of which many are not valid.
func ordered() []api.Term {
	one := num(1)
	return []api.Term{
		num(math.MinInt), num(-api.MaxInt), num(-7), num(0),
		{Kind: api.TermInt, Num: 7}, {Kind: api.TermInt, Num: 7, Name: "a"}, {Kind: api.TermInt, Num: 7, Args: []api.Term{one}}, num(12), num(math.MaxInt),
		sym(""), {Kind: api.TermSym, Num: 1}, sym("A"), sym("_"), sym("a"), {Kind: api.TermSym, Name: "a", Num: 5}, sym("a\x00"), sym("aa"), sym("b"), sym("\xff"),
		{Kind: api.TermSym, Name: "a", Args: []api.Term{one}},
		fun("z"), fun("z", one), fun("a", one, num(9)), fun("a", num(2), one), {Kind: api.TermFun, Name: "a", Num: 1, Args: []api.Term{num(2), one}}, fun("a", sym("a"), num(0)), fun("a", fun("b", one), num(0)), fun("a", variable("X"), num(0)), fun("b", num(0), num(0)), fun("a", num(0), num(0), num(0)),
		variable("X"), variable("XY"), variable("Y"), variable("_"),
		op("-", one), op("*", one, one), op("+", one, one), op("-", one, one), op("-", one, num(2)), op("/", one, one), op("\\", one, one),
		span(one, one), span(one, num(2)), span(num(2), one), {Kind: api.TermRange, Name: "a", Args: []api.Term{one, one}},
		{}, {Num: -1, Name: "a"}, {Name: "a"}, {Num: 1, Name: "a"}, {Args: []api.Term{{}}}, {Kind: 7}, {Kind: 8}, {Kind: 255},
	}
}

func TestCompare(t *testing.T) {
	l := ordered()
	for i, a := range l {
		for k, b := range l {
			want := 0
			if i < k {
				want = -1
			} else if i > k {
				want = 1
			}
			if got := Compare(a, b); got != want {
				t.Errorf("%v with %v: %d, want %d", a, b, got, want)
			}
			if Equal(a, b) != (i == k) {
				t.Errorf("%v equal %v: %v", a, b, Equal(a, b))
			}
		}
	}
}

func TestEqual(t *testing.T) {
	bare := api.Term{Kind: api.TermSym, Name: "a"}
	empty := api.Term{Kind: api.TermSym, Name: "a", Args: []api.Term{}}
	if !Equal(bare, empty) || !Equal(empty, bare) || Compare(bare, empty) != 0 {
		t.Error("a nil slice equals an empty one")
	}
	if !Equal(fun("f", bare, num(1)), fun("f", empty, num(1))) {
		t.Error("also in arguments")
	}
	if !Equal(tower(1<<16, num(1)), tower(1<<16, num(1))) || Equal(tower(1<<16, num(1)), tower(1<<16, num(2))) {
		t.Error("deep terms")
	}
	for _, o := range []api.Term{{Kind: api.TermFun, Name: "a"}, {Kind: api.TermSym, Name: "b"}, {Kind: api.TermSym, Name: "a", Num: -1}, {Kind: api.TermSym, Name: "a", Args: []api.Term{{}}}} {
		if Equal(bare, o) || Equal(o, bare) {
			t.Errorf("%v equals %v", bare, o)
		}
	}
}

// P1.3

func TestVars(t *testing.T) {
	x, y := variable("X"), variable("Y")
	for i, c := range []struct {
		t    api.Term
		want []string
	}{
		{num(1), nil}, {sym("X"), nil}, {fun("X", num(1)), nil}, {api.Term{}, nil},
		{x, []string{"X"}},
		{fun("f", y, op("+", x, y), span(num(1), variable("_"))), []string{"X", "Y", "_"}},
		{fun("f", variable("_10"), variable("_2"), variable("_"), variable("XY"), x), []string{"X", "XY", "_", "_10", "_2"}},
		{fun("f", variable(""), variable("a"), variable("\xff"), variable("Z")), []string{"", "Z", "a", "\xff"}},
		{api.Term{Kind: 40, Args: []api.Term{y, x}}, []string{"X", "Y"}},
		{api.Term{Kind: api.TermVar, Name: "Y", Args: []api.Term{x}}, []string{"X", "Y"}},
		{tower(1<<16, x), []string{"X"}},
	} {
		if got := Vars(c.t); !slices.Equal(got, c.want) {
			t.Errorf("%d: %q, want %q", i, got, c.want)
		}
	}
}

func TestString(t *testing.T) {
	x, one, two := variable("X"), num(1), num(2)
	sum, product := op("+", x, one), op("*", x, one)
	for want, v := range map[string]api.Term{
		"0": num(0), "-5": num(-5), "2147483647": num(api.MaxInt), "-2147483647": num(-api.MaxInt),
		"ab": sym("ab"), "_": variable("_"), "_12": variable("_12"),
		"f(X,1..2,X+1,-X,(1..2)+1)": fun("f", x, span(one, two), sum, op("-", x), op("+", span(one, two), one)),
		"f(g(a),-3)":                fun("f", fun("g", sym("a")), num(-3)),
		"-X":                        op("-", x), "--X": op("-", op("-", x)), "-(5)": op("-", num(5)), "-(-5)": op("-", num(-5)), "--(5)": op("-", op("-", num(5))), "-a": op("-", sym("a")), "-f(1)": op("-", fun("f", one)),
		"-(X+1)": op("-", sum), "-(X*1)": op("-", product), "-(1..2)": op("-", span(one, two)),
		"-X+1": op("+", op("-", x), one), "-X*1": op("*", op("-", x), one), "X*-X": op("*", x, op("-", x)), "X--X": op("-", x, op("-", x)), "X--1": op("-", x, num(-1)), "-1-X": op("-", num(-1), x), "X\\-1": op("\\", x, num(-1)),
		"1-2-3": op("-", op("-", one, two), num(3)), "1-(2-3)": op("-", one, op("-", two, num(3))),
		"X+1+2": op("+", sum, two), "2+(X+1)": op("+", two, sum), "X+1-2": op("-", sum, two), "2-(X+1)": op("-", two, sum),
		"(X+1)*2": op("*", sum, two), "2*(X+1)": op("*", two, sum), "(X+1)/2": op("/", sum, two), "2\\(X+1)": op("\\", two, sum),
		"X*1+2": op("+", product, two), "2+X*1": op("+", two, product), "2-X*1": op("-", two, product),
		"X*1*2": op("*", product, two), "2*(X*1)": op("*", two, product), "X*1/2": op("/", product, two), "2/(X*1)": op("/", two, product), "2\\(X*1)": op("\\", two, product), "X*1\\2": op("\\", product, two),
		"X+1..X*1": span(sum, product), "-X..-1": span(op("-", x), num(-1)), "(1..2)..X": span(span(one, two), x), "X..(1..2)": span(x, span(one, two)),
		"(1..2)*X": op("*", span(one, two), x), "X-(1..2)": op("-", x, span(one, two)),
	} {
		if got := String(v); got != want {
			t.Errorf("%q, want %q", got, want)
		}
	}
	for _, v := range []api.Term{{}, num(api.MaxInt + 1), sym("X"), sym("not"), variable("a"), fun("f"), fun("f", api.Term{}), op("+", one), span(one), tower(13, one), {Kind: 7, Name: "a"}} {
		if got := String(v); got != "" {
			t.Errorf("the text of an invalid term is %q", got)
		}
	}
	if got, want := String(tower(12, one)), strings.Repeat("f(", 11)+"1"+strings.Repeat(")", 11); got != want {
		t.Errorf("%q, want %q", got, want)
	}
}

// P1.4

func TestOrderIsTotal(t *testing.T) {
	l := family([]api.Term{num(1), sym("a"), variable("X"), {}})
	l = append(l, ordered()...)
	for _, a := range l {
		for _, b := range l {
			c := Compare(a, b)
			if c != -Compare(b, a) || (c == 0) != Equal(a, b) {
				t.Fatalf("%v with %v: %d and %d", a, b, c, Compare(b, a))
			}
			for _, d := range l {
				if c <= 0 && Compare(b, d) <= 0 && Compare(a, d) > 0 {
					t.Fatalf("%v, %v, %v are not ordered", a, b, d)
				}
			}
		}
	}
}

func TestOrderOfValues(t *testing.T) {
	l := []api.Term{num(-1), num(7), sym("a"), sym("b"), fun("f", sym("a")), fun("g", sym("a")), fun("f", sym("a"), sym("a"))}
	if !slices.IsSortedFunc(l, Compare) || !slices.IsSortedFunc([]api.Term{num(-10), num(-9), num(9), num(10)}, Compare) {
		t.Error("values are not in order")
	}
}

func TestTextsDiffer(t *testing.T) {
	small := []api.Term{num(1), num(-1), sym("a"), variable("X")}
	inner := append(family(small[:2]), small...)
	texts := map[string]api.Term{}
	for _, v := range append(family(inner), inner...) {
		s := String(v)
		if s == "" {
			t.Fatalf("%v has no text", v)
		}
		if o, found := texts[s]; found && !Equal(o, v) {
			t.Fatalf("%v and %v have the text %q", o, v, s)
		}
		texts[s] = v
	}
}

// TestExample is the example of the chapter.
func TestExample(t *testing.T) {
	v := op("-", fun("f", num(1), variable("X")), num(3))
	if !Valid(v) || Depth(v) != 3 || Ground(v) || Value(v) || !slices.Equal(Vars(v), []string{"X"}) || String(v) != "f(1,X)-3" {
		t.Error(Valid(v), Depth(v), Ground(v), Value(v), Vars(v), String(v))
	}
}

// R3

func TestArgumentsStay(t *testing.T) {
	args := []api.Term{variable("Y"), op("-", num(3)), variable("X"), num(99), num(98)}
	v := api.Term{Kind: api.TermFun, Name: "f", Args: args[:3]}
	before := slices.Clone(args)
	first := Vars(v)
	first[0] = "changed"
	second := Vars(v)
	Depth(v)
	Valid(v)
	Value(v)
	Ground(v)
	Compare(v, v)
	Equal(v, v)
	String(v)
	if !slices.EqualFunc(args, before, Equal) || !slices.Equal(second, []string{"X", "Y"}) {
		t.Error("an argument or a result changed", args, second)
	}
}
