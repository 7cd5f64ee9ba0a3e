package depend

import (
	"slices"

	"ostler/api"
)

// domain returns the domain predicates of a program.
func domain(p api.Prog) set[api.Sig] {
	components := Components(p)
	home := map[api.Sig]int{}
	for i, c := range components {
		for _, s := range c {
			home[s] = i
		}
	}
	out, leading := make([]bool, len(components)), make([][]Edge, len(components))
	for _, r := range p.Rules {
		if !definite(r) {
			for _, h := range r.Heads {
				out[home[Of(h.Atom)]] = true
			}
			continue
		}
		for e := range edges(r, everything) {
			leading[home[e.From]] = append(leading[home[e.From]], e)
		}
	}
	known := set[api.Sig]{}
	for i, c := range components {
		out[i] = out[i] || slices.ContainsFunc(leading[i], func(e Edge) bool {
			return out[home[e.To]] || e.Neg && home[e.To] == i
		})
		if !out[i] {
			known.add(c...)
		}
	}
	return known
}

// definite reports whether the heads of a rule may be domain predicates.
func definite(r api.Rule) bool {
	return r.Kind == api.RuleDisj && len(r.Heads) == 1 && !slices.ContainsFunc(r.Body, func(b api.Body) bool { return b.Kind == api.BodyAgg })
}
