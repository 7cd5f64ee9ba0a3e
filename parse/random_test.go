package parse_test

import (
	"strconv"
	"strings"

	"ostler/api"
)

// random produces phrases of the grammar, the tokens of which it collects, together with what they stand for.
type random struct {
	seed   uint32
	tokens []string
}

func (g *random) upTo(n int) int {
	g.seed = g.seed*1664525 + 1013904223
	return int(g.seed>>8) % (n + 1)
}

func (g *random) pick(texts ...string) string { return texts[g.upTo(len(texts)-1)] }

func (g *random) put(texts ...string) string {
	g.tokens = append(g.tokens, texts...)
	return texts[0]
}

// some calls a function from one to three times, with a token before each call but the first.
func (g *random) some(separator string, item func()) {
	item()
	for range max(0, g.upTo(4)-2) {
		g.put(separator)
		item()
	}
}

func (g *random) name() string { return g.put(g.pick("a", "b", "p", "f", "_n1", "nots")) }

func (g *random) number() int {
	n, _ := strconv.Atoi(g.put(g.pick("0", "1", "7", "2147483647")))
	return n
}

// operations returns the number of operations of a chain, most often 0.
func (g *random) operations() int { return max(0, g.upTo(9)-7) }

// term produces a term of at most depth 6, with as many levels of arguments as are allowed, each of which adds at most 6.
func (g *random) term(deep int) api.Term {
	t := g.sum(deep)
	if g.upTo(5) == 0 {
		g.put("..")
		t = api.Term{Kind: api.TermRange, Args: []api.Term{t, g.sum(deep)}}
	}
	return t
}

func (g *random) sum(deep int) api.Term {
	t := g.product(deep)
	for range g.operations() {
		op := g.put(g.pick("+", "-"))
		t = api.Term{Kind: api.TermOp, Name: op, Args: []api.Term{t, g.product(deep)}}
	}
	return t
}

func (g *random) product(deep int) api.Term {
	t := g.factor(deep, 6)
	for range g.operations() {
		op := g.put(g.pick("*", "/", "\\"))
		t = api.Term{Kind: api.TermOp, Name: op, Args: []api.Term{t, g.factor(deep, 6)}}
	}
	return t
}

// factor produces one of the first kinds of factors, of which the last is a number.
func (g *random) factor(deep, kinds int) api.Term {
	switch k := g.upTo(kinds); {
	case k == 6:
		return api.Term{Kind: api.TermInt, Num: g.number()}
	case k == 5 && deep > 0:
		g.put("(")
		t := g.term(deep - 1)
		g.put(")")
		return t
	case k == 4 && deep > 0:
		t := api.Term{Kind: api.TermFun, Name: g.name()}
		t.Args = g.args(deep - 1)
		return t
	case k == 3 && deep > 0:
		g.put("-")
		return api.Term{Kind: api.TermOp, Name: "-", Args: []api.Term{g.factor(deep-1, 5)}}
	case k == 2:
		g.put("-")
		return api.Term{Kind: api.TermInt, Num: -g.number()}
	case k == 1:
		return api.Term{Kind: api.TermVar, Name: g.put(g.pick("X", "Y", "_", "_1"))}
	}
	return api.Term{Kind: api.TermSym, Name: g.name()}
}

func (g *random) args(deep int) (args []api.Term) {
	g.put("(")
	g.some(",", func() { args = append(args, g.term(deep)) })
	g.put(")")
	return args
}

func (g *random) atom() api.Atom {
	a := api.Atom{Pred: g.name()}
	if g.upTo(1) == 0 {
		a.Args = g.args(1)
	}
	return a
}

func (g *random) comparison(texts ...string) uint8 {
	all := []string{"", "=", "!=", "<", "<=", ">", ">="}
	text := g.put(g.pick(texts...))
	for op, known := range all {
		if text == known {
			return uint8(op)
		}
	}
	return 0
}

func (g *random) literal() api.Lit {
	switch g.upTo(3) {
	case 0:
		left := g.term(1)
		op := g.comparison("=", "!=", "<", "<=", ">", ">=")
		return api.Lit{Kind: api.LitComp, L: left, Op: op, R: g.term(1)}
	case 1:
		g.put("not")
		return api.Lit{Kind: api.LitAtom, Not: true, Atom: g.atom()}
	}
	return api.Lit{Kind: api.LitAtom, Atom: g.atom()}
}

func (g *random) condition() (cond []api.Lit) {
	g.put(":")
	g.some(",", func() { cond = append(cond, g.literal()) })
	return cond
}

func (g *random) conditionOrNone() []api.Lit {
	if g.upTo(1) == 0 {
		return nil
	}
	return g.condition()
}

func (g *random) body() (body []api.Body) {
	for {
		b := g.element()
		body = append(body, b)
		if g.upTo(2) == 0 {
			return body
		}
		if b.Kind == api.BodyCond {
			g.put(";")
		} else {
			g.put(g.pick(",", ";"))
		}
	}
}

func (g *random) element() api.Body {
	switch g.upTo(3) {
	case 0:
		b := api.Body{Kind: api.BodyCond, Lit: g.literal()}
		b.Cond = g.condition()
		return b
	case 1:
		return g.aggregate()
	}
	return api.Body{Kind: api.BodyLit, Lit: g.literal()}
}

func (g *random) aggregate() api.Body {
	b := api.Body{Kind: api.BodyAgg, Not: g.upTo(1) == 0, Fun: api.AggCount}
	if b.Not {
		g.put("not")
	}
	if g.put(g.pick("#count", "#sum")) == "#sum" {
		b.Fun = api.AggSum
	}
	g.put("{")
	g.some(";", func() {
		e := api.Elem{}
		g.some(",", func() { e.Tuple = append(e.Tuple, g.term(1)) })
		e.Cond = g.conditionOrNone()
		b.Elems = append(b.Elems, e)
	})
	g.put("}")
	b.Op = g.comparison("=", "<", "<=", ">", ">=")
	b.Bound = g.term(1)
	return b
}

func (g *random) rule() api.Rule {
	r := api.Rule{Kind: api.RuleDisj}
	switch g.upTo(3) {
	case 0:
		g.put(":-")
		r.Body = g.body()
		g.put(".")
		return r
	case 1:
		g.some("|", func() { r.Heads = append(r.Heads, api.Head{Atom: g.atom()}) })
	case 2:
		r.Kind = api.RuleChoice
		g.choice(&r)
	case 3:
		return g.weak()
	}
	if g.upTo(1) == 0 {
		g.put(":-")
		r.Body = g.body()
	}
	g.put(".")
	return r
}

func (g *random) choice(r *api.Rule) {
	if g.upTo(1) == 0 {
		r.Lower = g.term(1)
	}
	g.put("{")
	g.some(";", func() {
		a := g.atom()
		r.Heads = append(r.Heads, api.Head{Atom: a, Cond: g.conditionOrNone()})
	})
	g.put("}")
	if g.upTo(1) == 0 {
		r.Upper = g.term(1)
	}
}

func (g *random) weak() api.Rule {
	var body []api.Body
	g.put(":~")
	if g.upTo(2) > 0 {
		body = g.body()
	}
	g.put(".", "[")
	r := g.cost()
	r.Body = body
	g.put("]")
	return r
}

func (g *random) cost() api.Rule {
	r := api.Rule{Kind: api.RuleWeak, Weight: g.term(1), Level: api.Term{Kind: api.TermInt}}
	if g.upTo(1) == 0 {
		g.put("@")
		r.Level = g.term(1)
	}
	for range g.upTo(2) {
		g.put(",")
		r.Tuple = append(r.Tuple, g.term(1))
	}
	return r
}

func (g *random) directive(p *api.Prog) {
	switch g.upTo(3) {
	case 0:
		g.put("#const")
		c := api.Const{Name: g.name()}
		g.put("=")
		c.Val = g.term(1)
		p.Consts = append(p.Consts, c)
	case 1:
		g.put("#minimize", "{")
		g.some(";", func() {
			r := g.cost()
			for _, l := range g.conditionOrNone() {
				r.Body = append(r.Body, api.Body{Kind: api.BodyLit, Lit: l})
			}
			p.Rules = append(p.Rules, r)
		})
		g.put("}")
	case 2:
		g.put("#show")
		p.Some = true
	case 3:
		g.put("#show")
		s := api.Sig{Name: g.name()}
		g.put("/")
		s.Arity = g.number()
		p.Shows = append(p.Shows, s)
		p.Some = true
	}
	g.put(".")
}

func (g *random) program() (p api.Prog) {
	for range g.upTo(4) {
		if g.upTo(2) == 0 {
			g.directive(&p)
		} else {
			p.Rules = append(p.Rules, g.rule())
		}
	}
	return p
}

// mutate changes some tokens.
func (g *random) mutate() {
	texts := []string{"a", "not", "X", "3", "#sum", "#count", "#show", "#const", "#minimize", ":-", ":~", ":", "..", ".", ",", ";", "|", "(", ")", "{", "}", "[", "]", "=", "!=", "<=", "+", "-", "*", "/", "@"}
	for range 1 + g.upTo(1) {
		at, text := g.upTo(len(g.tokens)), g.pick(texts...)
		before, after := g.tokens[:at:at], g.tokens[at:]
		switch g.upTo(2) {
		case 0:
			g.tokens = append(append(before, text), after...)
		case 1:
			g.tokens = append(append(before, text), after[min(1, len(after)):]...)
		case 2:
			g.tokens = append(before, after[min(1, len(after)):]...)
		}
	}
}

func (g *random) source() string { return strings.Join(g.tokens, " ") }
