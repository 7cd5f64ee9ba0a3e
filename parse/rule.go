package parse

import "ostler/api"

// head parses the head of a rule, and returns the rule without its body.
func (p *parser) head() api.Rule {
	if p.is("{") {
		return p.choice(api.Term{})
	}
	first, lower, isAtom := p.atomOrTerm("{")
	if !isAtom {
		return p.choice(lower)
	}
	r := api.Rule{Kind: api.RuleDisj, Heads: []api.Head{{Atom: first}}}
	if p.accept("|") {
		r.Heads = append(r.Heads, list(p, api.MaxElems-1, (*parser).disjunct, "|")...)
	}
	return r
}

func (p *parser) disjunct() api.Head { return api.Head{Atom: p.atom()} }

// choice parses what follows the lower bound.
func (p *parser) choice(lower api.Term) api.Rule {
	r := api.Rule{Kind: api.RuleChoice, Lower: lower}
	p.expect("{")
	r.Heads = list(p, api.MaxElems, (*parser).chosen, ";")
	p.expect("}")
	if !p.is(":-", ".") {
		r.Upper = p.term()
	}
	return r
}

func (p *parser) chosen() api.Head {
	a := p.atom()
	return api.Head{Atom: a, Cond: p.condition()}
}

// body parses elements without looking at their separators: the condition of an element contains all commas after it, so that only a semicolon can follow.
func (p *parser) body() []api.Body {
	return list(p, api.MaxElems, (*parser).element, ",", ";")
}

func (p *parser) element() api.Body {
	not := p.accept("not")
	if p.is("#count", "#sum") {
		return p.aggregate(not)
	}
	b := api.Body{Kind: api.BodyLit, Lit: p.literalAfter(not)}
	b.Cond = p.condition()
	if len(b.Cond) > 0 {
		b.Kind = api.BodyCond
	}
	return b
}

func (p *parser) aggregate(not bool) api.Body {
	b := api.Body{Kind: api.BodyAgg, Not: not, Fun: api.AggCount}
	if p.expect("#count", "#sum") == "#sum" {
		b.Fun = api.AggSum
	}
	p.expect("{")
	b.Elems = list(p, api.MaxElems, (*parser).tuple, ";")
	p.expect("}")
	b.Op = operator(p.expect("=", "<", "<=", ">", ">="))
	b.Bound = p.term()
	return b
}

func (p *parser) tuple() api.Elem {
	terms := list(p, api.MaxElems, (*parser).term, ",")
	return api.Elem{Tuple: terms, Cond: p.condition()}
}

// condition parses a condition with the colon before it, if there is one.
func (p *parser) condition() []api.Lit {
	if !p.accept(":") {
		return nil
	}
	return list(p, api.MaxElems, (*parser).literal, ",")
}

func (p *parser) literal() api.Lit { return p.literalAfter(p.accept("not")) }

// literalAfter parses what follows the place of the keyword not, which negates atoms only.
func (p *parser) literalAfter(not bool) api.Lit {
	if not {
		return api.Lit{Kind: api.LitAtom, Not: true, Atom: p.atom()}
	}
	a, left, isAtom := p.atomOrTerm()
	if isAtom {
		return api.Lit{Kind: api.LitAtom, Atom: a}
	}
	op := operator(p.expect(comparisons()...))
	return api.Lit{Kind: api.LitComp, Op: op, L: left, R: p.term()}
}

func comparisons() []string { return []string{"=", "!=", "<", "<=", ">", ">="} }

func operator(text string) uint8 {
	switch text {
	case "=":
		return api.OpEq
	case "!=":
		return api.OpNe
	case "<":
		return api.OpLt
	case "<=":
		return api.OpLe
	case ">":
		return api.OpGt
	}
	return api.OpGe
}
