package derive

import (
	"slices"
	"strings"

	"ostler/api"
	"ostler/depend"
	"ostler/join"
	"ostler/term"
)

// verdict says what a ground literal or an instance is. That of a conjunction is the least one of its parts.
type verdict int

const (
	isImpossible verdict = iota
	isPossible
	isCertain
)

// rule is a rule with its flat premises.
type rule struct {
	flat     []api.Lit
	best     verdict     // the verdict on an instance whose body is certain
	literals []api.Lit   // the atoms of the flat premises that belong to the body, negative ones included
	inner    []condition // of the body elements of Kind BodyCond
	heads    []head
	reads    []api.Sig // the predicates of the body
}

// head notes the ground heads that an instance has because of one head of its rule.
type head func(b api.Binding, v verdict)

// compile returns a rule for a component.
func (c *component) compile(r api.Rule) *rule {
	x := &rule{flat: join.Flat(Premises(r)), best: isPossible}
	x.reads = depend.Sigs(api.Prog{Rules: []api.Rule{{Body: r.Body}}})
	if definite(r) {
		x.best = isCertain
	}
	used, atoms := variables(x.flat...), atomsAmong(x.flat)
	own := len(atomsAmong(bodyLits(r)))
	x.literals = atoms[:own]
	for _, b := range r.Body {
		if b.Kind == api.BodyCond {
			x.inner = append(x.inner, newCondition(b.Cond, []api.Lit{b.Lit}, used...))
		}
	}
	for i, h := range r.Heads {
		if r.Kind == api.RuleChoice {
			x.heads = append(x.heads, c.chosen(newCondition(h.Cond, []api.Lit{positive(h.Atom)}, used...)))
		} else {
			x.heads = append(x.heads, c.derived(atoms[own+i].Atom))
		}
	}
	return x
}

// definite reports whether a rule may have certain instances.
func definite(r api.Rule) bool {
	return r.Kind == api.RuleDisj && len(r.Heads) == 1 && !slices.ContainsFunc(r.Body, func(b api.Body) bool { return b.Kind == api.BodyAgg })
}

// derived returns the head of a disjunction.
func (c *component) derived(a api.Atom) head {
	return func(b api.Binding, v verdict) { c.conclude(ground(a, b), v) }
}

// chosen returns the head of a choice. What its condition reads does not change while the component is processed, so that its elements are found only once.
func (c *component) chosen(x condition) head {
	expand := remember(x, func(b api.Binding) verdict {
		for concl := range c.conclusions(x, b) {
			c.conclude(concl.Atom, isPossible)
		}
		return isPossible
	})
	return func(b api.Binding, _ verdict) { expand(b) }
}

// test returns the verdict on a part of a body for an instance.
type test func(b api.Binding) verdict

// tests returns the tests of an instance for one round, those of literals first.
func (c *component) tests(r *rule) []test {
	var l []test
	for _, x := range r.literals {
		l = append(l, func(b api.Binding) verdict {
			return c.rate(api.Lit{Kind: x.Kind, Not: x.Not, Atom: ground(x.Atom, b)})
		})
	}
	for _, x := range r.inner {
		l = append(l, remember(x, func(b api.Binding) verdict {
			least := isCertain
			for concl := range c.conclusions(x, b) {
				least = min(least, c.rate(concl))
			}
			return least
		}))
	}
	return l
}

// remember returns a test that is made once for all bindings with the same values of the variables of a condition, which are all that it gets.
func remember(x condition, t test) test {
	relevant := map[string]bool{}
	for _, name := range variables(x.flat...) {
		relevant[name] = true
	}
	known := map[string]verdict{}
	return func(b api.Binding) verdict {
		b = slices.DeleteFunc(slices.Clone(b), func(x api.Bind) bool { return !relevant[x.Name] })
		at := text(b)
		v, found := known[at]
		if !found {
			v = t(b)
			known[at] = v
		}
		return v
	}
}

// text returns a text that differs for bindings of the same variables.
func text(b api.Binding) string {
	var l []string
	for _, x := range b {
		l = append(l, term.String(x.Val))
	}
	return strings.Join(l, " ")
}
