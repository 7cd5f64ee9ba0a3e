package check_test

import (
	"math/rand/v2"
	"strings"
)

// random produces sources of programs.
type random struct{ *rand.Rand }

func newRandom(seed uint64) random { return random{rand.New(rand.NewPCG(seed, 0))} }

func (g random) pick(texts ...string) string { return texts[g.IntN(len(texts))] }

// maybe returns a text or none.
func (g random) maybe(text string) string { return g.pick(text, "") }

// some produces from one to three items with a separator between any two of them.
func (g random) some(item func() string, separator string) string {
	items := []string{item()}
	for range g.IntN(3) {
		items = append(items, item())
	}
	return strings.Join(items, separator)
}

// name produces a name that may be that of a constant, a predicate and a function.
func (g random) name() string { return g.pick("a", "b", "c", "n", "m") }

// simple produces a term without intervals.
func (g random) simple() string {
	switch g.IntN(12) {
	case 0:
		return g.name() + "(" + g.some(g.simple, ",") + ")"
	case 1:
		return g.simple() + g.pick("+", "-", "*", "/", "\\") + g.pick("1", "n", "_", "X")
	case 2:
		return "(" + g.simple() + ")*-" + g.name()
	case 3, 4, 5:
		return g.name()
	case 6, 7:
		return "_"
	}
	return g.pick("0", "1", "-2", "X", "_1", "_2", "_3", "_01", "__Y", "f(f(f(f(f(a)))))")
}

// term produces any term.
func (g random) term() string {
	if g.IntN(10) == 0 {
		return g.simple() + ".." + g.simple()
	}
	return g.simple()
}

// single produces a term of a place where intervals are not allowed, but seldom are.
func (g random) single() string {
	if g.IntN(10) == 0 {
		return g.term()
	}
	return g.simple()
}

func (g random) atom() string {
	return g.name() + g.maybe("("+g.some(g.term, ",")+")")
}

func (g random) literal() string {
	if g.IntN(3) == 0 {
		return g.term() + g.pick("=", "!=", "<", "<=", ">", ">=") + g.term()
	}
	return g.maybe("not ") + g.atom()
}

func (g random) condition() string { return g.maybe(" : " + g.some(g.literal, ", ")) }

func (g random) choice() string { return g.atom() + g.condition() }

func (g random) tuple() string { return g.some(g.term, ",") + g.condition() }

func (g random) element() string {
	if g.IntN(3) > 0 {
		return g.literal() + g.condition()
	}
	return g.maybe("not ") + g.pick("#count", "#sum") + "{ " + g.some(g.tuple, "; ") + " } " + g.pick("=", "<", ">=") + g.single()
}

func (g random) body() string { return g.some(g.element, "; ") }

func (g random) rule() string {
	switch g.IntN(4) {
	case 0:
		return ":- " + g.body() + "."
	case 1:
		return ":~ " + g.maybe(g.body()) + ". [" + g.single() + g.maybe("@"+g.single()) + g.maybe(","+g.some(g.term, ",")) + "]"
	case 2:
		return g.some(g.atom, " | ") + g.maybe(" :- "+g.body()) + "."
	}
	return g.maybe(g.single()+" ") + "{ " + g.some(g.choice, "; ") + " }" + g.maybe(" "+g.single()) + g.maybe(" :- "+g.body()) + "."
}

// program produces a program with up to five constants, most of them valid and of different names.
func (g random) program() string {
	src := ""
	names := []string{"a", "b", "c", "n", "m"}
	for _, i := range g.Perm(5)[:g.IntN(6)] {
		src += "#const " + names[i] + " = " + g.value(names[i+1:]) + ". "
	}
	if g.IntN(20) == 0 {
		src += "#const " + g.name() + " = " + g.term() + ". "
	}
	for range 1 + g.IntN(3) {
		src += g.rule() + " "
	}
	return src + g.maybe("#show. ") + g.maybe("#show "+g.name()+"/1. ")
}

// value produces the value of a constant that depends on some others.
func (g random) value(others []string) string {
	if g.IntN(40) == 0 {
		return g.term()
	}
	other := g.pick(append([]string{"1", "2", "5", "-3"}, others...)...)
	return g.pick(other, "-"+other, other+"+1", other+"*"+other, "2-"+other, "f("+other+",d)", "f(f(f(f(f(f(f("+other+")))))))", "f("+other+"+1,g("+other+"),"+other+")")
}
