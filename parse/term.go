package parse

import (
	"strconv"

	"ostler/api"
	"ostler/lex"
	"ostler/term"
)

// term parses a term that is not part of another one.
func (p *parser) term() api.Term {
	at := p.peek().At
	t := p.interval()
	limitDepth(at, t)
	return t
}

func (p *parser) atom() api.Atom {
	at := p.peek().At
	a := api.Atom{Pred: p.take(lex.Symbol), Args: p.arguments()}
	limitDepth(at, a.Args...)
	return a
}

// atomOrTerm parses an atom or a term where the grammar allows both. It is a term also if it looks like an atom but a comparison follows, or one of some other tokens.
func (p *parser) atomOrTerm(follow ...string) (a api.Atom, t api.Term, isAtom bool) {
	first := p.peek()
	t = p.interval()
	looksLikeAtom := first.Kind == lex.Symbol && (t.Kind == api.TermSym || t.Kind == api.TermFun)
	if looksLikeAtom && !p.is(comparisons()...) && !p.is(follow...) {
		limitDepth(first.At, t.Args...)
		return api.Atom{Pred: t.Name, Args: t.Args}, api.Term{}, true
	}
	limitDepth(first.At, t)
	return api.Atom{}, t, false
}

// limitDepth panics if a term of the phrase that begins at an offset is nested too deeply.
func limitDepth(at int, terms ...api.Term) {
	for _, t := range terms {
		if term.Depth(t) > api.MaxDepth {
			panic(failure{at, api.ErrMany})
		}
	}
}

// interval parses any term.
func (p *parser) interval() api.Term {
	t := p.sum()
	if p.accept("..") {
		t = api.Term{Kind: api.TermRange, Args: []api.Term{t, p.sum()}}
	}
	return t
}

func (p *parser) sum() api.Term { return p.chain((*parser).product, "+", "-") }

func (p *parser) product() api.Term { return p.chain((*parser).factor, "*", "/", "\\") }

// chain parses operations of one level, which associate to the left.
func (p *parser) chain(operand func(*parser) api.Term, operators ...string) api.Term {
	t := operand(p)
	for p.is(operators...) {
		op := p.expect(operators...)
		t = operation(op, t, operand(p))
	}
	return t
}

func operation(op string, operands ...api.Term) api.Term {
	return api.Term{Kind: api.TermOp, Name: op, Args: operands}
}

func (p *parser) factor() api.Term {
	switch p.peek().Kind {
	case lex.Number:
		return api.Term{Kind: api.TermInt, Num: p.number()}
	case lex.Variable:
		return api.Term{Kind: api.TermVar, Name: p.take(lex.Variable)}
	case lex.Symbol:
		return p.function()
	}
	if p.accept("-") {
		return p.negative()
	}
	p.expect("(")
	t := p.interval()
	p.expect(")")
	return t
}

// negative parses what follows a minus sign.
func (p *parser) negative() api.Term {
	if p.peek().Kind == lex.Number {
		return api.Term{Kind: api.TermInt, Num: -p.number()}
	}
	return operation("-", p.factor())
}

// number cannot fail on the digits, since layer 3 limits them.
func (p *parser) number() int {
	n, _ := strconv.Atoi(p.take(lex.Number))
	return n
}

// function parses a symbolic constant or a function term.
func (p *parser) function() api.Term {
	t := api.Term{Kind: api.TermSym, Name: p.take(lex.Symbol), Args: p.arguments()}
	if len(t.Args) > 0 {
		t.Kind = api.TermFun
	}
	return t
}

// arguments parses arguments in parentheses, if there are any.
func (p *parser) arguments() []api.Term {
	if !p.accept("(") {
		return nil
	}
	args := list(p, api.MaxArgs, (*parser).interval, ",")
	p.expect(")")
	return args
}
