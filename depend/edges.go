package depend

import (
	"iter"

	"ostler/api"
)

// end is what an edge has besides the predicate from which it leads.
type end struct {
	to  api.Sig
	neg bool
}

// ends yields the ends of the edges that lead from each head of a rule to its body.
func ends(body []api.Body) iter.Seq[end] {
	var parts []iter.Seq[end]
	for _, b := range body {
		switch b.Kind {
		case api.BodyLit:
			parts = append(parts, signed(predicates(b.Lit), b.Lit.Not))
		case api.BodyCond:
			parts = append(parts, signed(chain(predicates(b.Lit), predicates(b.Cond...)), false, true))
		case api.BodyAgg:
			parts = append(parts, signed(inElements(b.Elems), false, true))
		}
	}
	return chain(parts...)
}

// signed yields an end with each of the signs for each predicate.
func signed(predicates iter.Seq[api.Sig], signs ...bool) iter.Seq[end] {
	return func(yield func(end) bool) {
		for s := range predicates {
			for _, neg := range signs {
				if !yield(end{s, neg}) {
					return
				}
			}
		}
	}
}

func everything(api.Sig) bool { return true }

// edges yields the edges of a rule that lead from accepted to accepted predicates, in any order. Predicates that are not accepted are left out first, so that a rule with many edges of which none is accepted takes little time.
func edges(r api.Rule, accept func(api.Sig) bool) iter.Seq[Edge] {
	heads := map[api.Sig]int{}
	for _, h := range r.Heads {
		if s := Of(h.Atom); accept(s) {
			heads[s]++
		}
	}
	reached := set[end]{}
	for e := range ends(r.Body) {
		if accept(e.to) {
			reached.add(e)
		}
	}
	parts := []iter.Seq[Edge]{toBody(heads, reached), toConditions(r.Heads, accept)}
	if r.Kind != api.RuleChoice {
		parts = append(parts, toHeads(heads))
	}
	return chain(parts...)
}

func toBody(heads map[api.Sig]int, reached set[end]) iter.Seq[Edge] {
	return func(yield func(Edge) bool) {
		for from := range heads {
			for e := range reached {
				if !yield(Edge{from, e.to, e.neg}) {
					return
				}
			}
		}
	}
}

// toConditions yields the edges that lead from heads to their own conditions.
func toConditions(heads []api.Head, accept func(api.Sig) bool) iter.Seq[Edge] {
	return func(yield func(Edge) bool) {
		for _, h := range heads {
			from := Of(h.Atom)
			for e := range signed(predicates(h.Cond...), false, true) {
				if accept(from) && accept(e.to) && !yield(Edge{from, e.to, e.neg}) {
					return
				}
			}
		}
	}
}

// toHeads yields the edges that lead from each head to the other ones. The same predicate is another head if it occurs twice.
func toHeads(heads map[api.Sig]int) iter.Seq[Edge] {
	return func(yield func(Edge) bool) {
		for from, count := range heads {
			for to := range heads {
				if (from != to || count > 1) && !yield(Edge{From: from, To: to}) {
					return
				}
			}
		}
	}
}
