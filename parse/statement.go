package parse

import (
	"ostler/api"
	"ostler/lex"
)

func (p *parser) program() api.Prog {
	for p.more() {
		p.statement()
	}
	return p.prog
}

func (p *parser) singleRule() api.Rule {
	if p.peek().Kind == lex.Directive {
		panic(p.failure(ErrSyntax))
	}
	p.statement()
	return p.prog.Rules[0]
}

// statement parses a statement, which is a rule with a head unless its first token says otherwise.
func (p *parser) statement() {
	form, known := statements()[p.peek().Text]
	if !known {
		form = (*parser).rule
	}
	form(p)
}

// statements returns the ways to parse a statement, by its first token.
func statements() map[string]func(*parser) {
	return map[string]func(*parser){
		":-":        (*parser).constraint,
		":~":        (*parser).weak,
		"#const":    (*parser).constant,
		"#show":     (*parser).show,
		"#minimize": (*parser).minimize,
	}
}

func (p *parser) rule() {
	p.room(len(p.prog.Rules), api.MaxRules)
	r := p.head()
	if p.accept(":-") {
		r.Body = p.body()
	}
	p.expect(".")
	p.prog.Rules = append(p.prog.Rules, r)
}

func (p *parser) constraint() {
	p.room(len(p.prog.Rules), api.MaxRules)
	r := api.Rule{Kind: api.RuleDisj}
	p.expect(":-")
	r.Body = p.body()
	p.expect(".")
	p.prog.Rules = append(p.prog.Rules, r)
}

func (p *parser) weak() {
	p.room(len(p.prog.Rules), api.MaxRules)
	var body []api.Body
	p.expect(":~")
	if !p.is(".") {
		body = p.body()
	}
	p.expect(".")
	p.expect("[")
	r := p.cost()
	r.Body = body
	p.expect("]")
	p.prog.Rules = append(p.prog.Rules, r)
}

// cost parses the cost of a weak constraint, and returns the weak constraint without its body.
func (p *parser) cost() api.Rule {
	r := api.Rule{Kind: api.RuleWeak, Weight: p.term(), Level: api.Term{Kind: api.TermInt}}
	if p.accept("@") {
		r.Level = p.term()
	}
	if p.accept(",") {
		r.Tuple = list(p, api.MaxElems, (*parser).term, ",")
	}
	return r
}

func (p *parser) constant() {
	p.room(len(p.prog.Consts), api.MaxRules)
	p.expect("#const")
	name := p.take(lex.Symbol)
	p.expect("=")
	value := p.term()
	p.expect(".")
	p.prog.Consts = append(p.prog.Consts, api.Const{Name: name, Val: value})
}

func (p *parser) show() {
	p.room(len(p.prog.Shows), api.MaxRules)
	p.expect("#show")
	p.prog.Some = true
	if p.accept(".") {
		return
	}
	name := p.take(lex.Symbol)
	p.expect("/")
	arity := p.number()
	p.expect(".")
	p.prog.Shows = append(p.prog.Shows, api.Sig{Name: name, Arity: arity})
}

func (p *parser) minimize() {
	p.expect("#minimize")
	p.expect("{")
	rules := list(p, api.MaxRules-len(p.prog.Rules), (*parser).minimized, ";")
	p.expect("}")
	p.expect(".")
	p.prog.Rules = append(p.prog.Rules, rules...)
}

// minimized parses an element of #minimize.
func (p *parser) minimized() api.Rule {
	r := p.cost()
	for _, l := range p.condition() {
		r.Body = append(r.Body, api.Body{Kind: api.BodyLit, Lit: l})
	}
	return r
}
