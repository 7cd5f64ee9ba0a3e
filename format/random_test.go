package format_test

import (
	"math/rand/v2"
	"reflect"
	"strconv"

	"ostler/api"
	"ostler/parse"
)

// random produces phrases of the grammar together with their sources.
type random struct{ *rand.Rand }

func newRandom(seed uint64) random { return random{rand.New(rand.NewPCG(seed, 0))} }

func (g random) pick(texts ...string) string { return texts[g.IntN(len(texts))] }

func (g random) maybe() bool { return g.IntN(2) == 0 }

// some produces from one to three items with a separator between any two of them.
func some[T any](g random, separator string, item func() (T, string)) (items []T, src string) {
	for i := range 1 + g.IntN(3) {
		x, s := item()
		if i > 0 {
			src += separator
		}
		items, src = append(items, x), src+s
	}
	return items, src
}

func (g random) name() string { return g.pick("a", "b", "p", "_q1", "nots") }

func (g random) term() (api.Term, string) {
	src := g.pick("0", "1", "-1", "2147483647", "a", "_b", "X", "_", "_1", "__Y", "f(X)", "f(1..2,g(a))", "X+1", "1-2-3", "1-(2-3)", "-(5)", "--X", "-X*Y", "X--1", "(1..2)*2", "1..n+1", "X\\2/Y", "-(X+1)..(1..2)")
	t, _, _ := parse.Term(src)
	return t, src
}

func (g random) atom() (api.Atom, string) {
	name := g.name()
	if g.maybe() {
		return api.Atom{Pred: name}, name
	}
	args, src := some(g, ",", g.term)
	return api.Atom{Pred: name, Args: args}, name + "(" + src + ")"
}

func (g random) literal() (api.Lit, string) {
	if g.maybe() {
		left, leftSrc := g.term()
		right, rightSrc := g.term()
		op := g.IntN(6)
		sign := []string{" = ", " != ", " < ", " <= ", " > ", " >= "}[op]
		return api.Lit{Kind: api.LitComp, L: left, Op: uint8(op + 1), R: right}, leftSrc + sign + rightSrc
	}
	a, src := g.atom()
	if g.maybe() {
		return api.Lit{Kind: api.LitAtom, Atom: a, Not: true}, "not " + src
	}
	return api.Lit{Kind: api.LitAtom, Atom: a}, src
}

// condition produces a condition with its colon, or none.
func (g random) condition() ([]api.Lit, string) {
	if g.maybe() {
		return nil, ""
	}
	cond, src := some(g, ", ", g.literal)
	return cond, " : " + src
}

func (g random) head() (api.Head, string) {
	a, src := g.atom()
	cond, condSrc := g.condition()
	return api.Head{Atom: a, Cond: cond}, src + condSrc
}

func (g random) disjunct() (api.Head, string) {
	a, src := g.atom()
	return api.Head{Atom: a}, src
}

func (g random) tuple() (api.Elem, string) {
	terms, src := some(g, ",", g.term)
	cond, condSrc := g.condition()
	return api.Elem{Tuple: terms, Cond: cond}, src + condSrc
}

func (g random) element() (b api.Body, src string) {
	if g.IntN(3) > 0 {
		l, src := g.literal()
		cond, condSrc := g.condition()
		b = api.Body{Kind: api.BodyLit, Lit: l, Cond: cond}
		if condSrc != "" {
			b.Kind = api.BodyCond
		}
		return b, src + condSrc
	}
	b = api.Body{Kind: api.BodyAgg, Not: g.maybe(), Fun: api.AggCount}
	text := "#count{ "
	if g.maybe() {
		b.Fun, text = api.AggSum, "#sum{ "
	}
	if b.Not {
		text = "not " + text
	}
	b.Elems, src = some(g, "; ", g.tuple)
	op := g.pick("=1", "<3", "<=4", ">5", ">=6")
	b.Op = op[len(op)-1] - '0'
	bound, boundSrc := g.term()
	b.Bound = bound
	return b, text + src + " } " + op[:len(op)-1] + " " + boundSrc
}

func (g random) body() (body []api.Body, src string) {
	separator := ""
	for range 1 + g.IntN(3) {
		b, s := g.element()
		body, src = append(body, b), src+separator+s
		separator = ", "
		if b.Kind == api.BodyCond {
			separator = "; "
		}
	}
	return body, src
}

func (g random) rule() (api.Rule, string) {
	switch g.IntN(4) {
	case 0:
		body, src := g.body()
		return api.Rule{Kind: api.RuleDisj, Body: body}, ":- " + src + "."
	case 1:
		return g.weak()
	case 2:
		heads, src := some(g, " | ", g.disjunct)
		return g.rest(api.Rule{Kind: api.RuleDisj, Heads: heads}, src)
	}
	heads, src := some(g, "; ", g.head)
	r := api.Rule{Kind: api.RuleChoice, Heads: heads}
	src = "{ " + src + " }"
	if bound, text := g.term(); g.maybe() {
		r.Lower, src = bound, text+" "+src
	}
	if bound, text := g.term(); g.maybe() {
		r.Upper, src = bound, src+" "+text
	}
	return g.rest(r, src)
}

// rest completes a rule with a head.
func (g random) rest(r api.Rule, head string) (api.Rule, string) {
	if g.maybe() {
		return r, head + "."
	}
	body, src := g.body()
	r.Body = body
	return r, head + " :- " + src + "."
}

func (g random) weak() (api.Rule, string) {
	weight, src := g.term()
	level, levelSrc := g.term()
	r := api.Rule{Kind: api.RuleWeak, Weight: weight, Level: level}
	src += "@" + levelSrc
	if g.maybe() {
		tuple, tupleSrc := some(g, ",", g.term)
		r.Tuple, src = tuple, src+","+tupleSrc
	}
	if g.maybe() {
		return r, ":~. [" + src + "]"
	}
	body, bodySrc := g.body()
	r.Body = body
	return r, ":~ " + bodySrc + ". [" + src + "]"
}

func (g random) program() (p api.Prog, src string) {
	for range g.IntN(3) {
		name := g.name()
		value, text := g.term()
		p.Consts, src = append(p.Consts, api.Const{Name: name, Val: value}), src+"#const "+name+" = "+text+".\n"
	}
	for range g.IntN(4) {
		r, text := g.rule()
		p.Rules, src = append(p.Rules, r), src+text+"\n"
	}
	if p.Some = g.maybe(); p.Some {
		src += "#show.\n"
		for range g.IntN(3) {
			s := api.Sig{Name: g.name(), Arity: g.IntN(10)}
			p.Shows, src = append(p.Shows, s), src+"#show "+s.Name+"/"+strconv.Itoa(s.Arity)+".\n"
		}
	}
	return p, src
}

// change changes a part of what a pointer points to.
func (g random) change(p any) {
	var all []reflect.Value
	visit(reflect.ValueOf(p).Elem(), func(v reflect.Value) { all = append(all, v) })
	v := all[g.IntN(len(all))]
	switch v.Kind() {
	case reflect.Bool:
		v.SetBool(!v.Bool())
	case reflect.Uint8:
		v.SetUint(uint64(g.IntN(8)))
	case reflect.Int:
		v.SetInt(int64([]int{0, 1, -1, api.MaxInt, -api.MaxInt, api.MaxInt + 1, -api.MaxInt - 1}[g.IntN(7)]))
	case reflect.String:
		v.SetString(g.pick("", "a", "_a1", "X", "_", "not", "A b", "a.", "a, b", "a%", "-", "*", "..", "é", "f(1)"))
	case reflect.Slice:
		g.changeSlice(v)
	case reflect.Struct:
		v.SetZero()
		if t, _ := g.term(); v.Type() == reflect.TypeFor[api.Term]() {
			v.Set(reflect.ValueOf(t))
		}
	}
}

func (g random) changeSlice(v reflect.Value) {
	switch g.IntN(4) {
	case 0:
		v.SetZero()
	case 1:
		v.Set(reflect.Append(v, reflect.Zero(v.Type().Elem())))
	case 2:
		if v.Len() > 0 {
			v.Set(reflect.Append(v, v.Index(0)))
		}
	case 3:
		v.SetLen(v.Len() - min(v.Len(), 1))
	}
}
