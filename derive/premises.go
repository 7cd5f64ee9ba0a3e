package derive

import (
	"ostler/api"
	"ostler/join"
)

// bodyLits returns the literals of the body elements of Kind BodyLit.
func bodyLits(r api.Rule) []api.Lit {
	var l []api.Lit
	for _, b := range r.Body {
		if b.Kind == api.BodyLit {
			l = append(l, b.Lit)
		}
	}
	return l
}

// measures returns the bounds of a rule, its weight, its level and its tuple.
func measures(r api.Rule) []api.Term {
	var l []api.Term
	if r.Kind == api.RuleChoice {
		for _, t := range []api.Term{r.Lower, r.Upper} {
			if t.Kind != 0 {
				l = append(l, t)
			}
		}
	}
	for _, b := range r.Body {
		if b.Kind == api.BodyAgg {
			l = append(l, b.Bound)
		}
	}
	if r.Kind == api.RuleWeak {
		l = append(append(l, r.Weight, r.Level), r.Tuple...)
	}
	return l
}

// closing returns a closing literal for each of some terms.
func closing(terms ...api.Term) []api.Lit {
	var l []api.Lit
	for _, t := range terms {
		l = append(l, copies(negative(requiring(t)))...)
	}
	return l
}

// requiring returns an atom that stands for nothing but its arguments.
func requiring(terms ...api.Term) api.Atom {
	return api.Atom{Pred: "w", Args: terms}
}

func negative(a api.Atom) api.Lit {
	return api.Lit{Kind: api.LitAtom, Not: true, Atom: a}
}

func positive(a api.Atom) api.Lit {
	return api.Lit{Kind: api.LitAtom, Atom: a}
}

// validRule reports whether the program that consists of a rule is derivable.
func validRule(r api.Rule) bool {
	if r.Kind < api.RuleDisj || r.Kind > api.RuleWeak {
		return false
	}
	l := Premises(r)
	for _, h := range r.Heads {
		l = append(append(l, positive(h.Atom)), h.Cond...)
	}
	for _, b := range r.Body {
		switch b.Kind {
		case api.BodyLit:
		case api.BodyCond:
			l = append(append(l, b.Lit), b.Cond...)
		case api.BodyAgg:
			for _, e := range b.Elems {
				l = append(append(l, e.Cond...), closing(e.Tuple...)...)
			}
		default:
			return false
		}
	}
	return join.Valid(l)
}
