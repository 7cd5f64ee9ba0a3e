package derive

import (
	"slices"

	"ostler/api"
	"ostler/join"
	"ostler/store"
)

// bindsAll reports whether a derivable rule is safe.
func bindsAll(r api.Rule) bool {
	flat := join.Flat(Premises(r))
	if leavesUnbound(flat, nil) {
		return false
	}
	// Which values the variables have does not matter.
	var b api.Binding
	for _, name := range variables(flat...) {
		b = append(b, api.Bind{Name: name, Val: api.Term{Kind: api.TermInt}})
	}
	return !slices.ContainsFunc(innerLists(r, names(b)...), func(l []api.Lit) bool { return leavesUnbound(l, b) })
}

// innerLists returns the flat lists of the conditions of a rule, with what they are conditions of.
func innerLists(r api.Rule, used ...string) [][]api.Lit {
	var lists [][]api.Lit
	add := func(cond []api.Lit, concl ...api.Lit) {
		lists = append(lists, newCondition(cond, concl, used...).flat)
	}
	for _, b := range r.Body {
		switch b.Kind {
		case api.BodyCond:
			add(b.Cond, b.Lit)
		case api.BodyAgg:
			for _, e := range b.Elems {
				add(e.Cond, closing(e.Tuple...)...)
			}
		}
	}
	if r.Kind == api.RuleChoice {
		for _, h := range r.Heads {
			add(h.Cond, positive(h.Atom))
		}
	}
	return lists
}

// leavesUnbound reports whether a valid list leaves variables unbound. A false comparison, which is processed first, ends the evaluation before it takes any time.
func leavesUnbound(l []api.Lit, b api.Binding) bool {
	zero := api.Term{Kind: api.TermInt}
	l = slices.Insert(slices.Clone(l), 0, api.Lit{Kind: api.LitComp, L: zero, Op: api.OpNe, R: zero})
	_, e := join.Join(l, store.New(), b)
	return e == join.ErrUnsafe
}
