package finite

import (
	"iter"

	"ostler/api"
)

// occurrence is an occurrence of a variable in a term.
type occurrence struct {
	name  string
	depth int
	plain bool
}

// occurrences yields the occurrences of variables in a term.
func occurrences(t api.Term) iter.Seq[occurrence] {
	return func(yield func(occurrence) bool) { visit(t, occurrence{plain: true}, yield) }
}

// visit yields the occurrences in a subterm, given what those that it contains have in common.
func visit(t api.Term, o occurrence, yield func(occurrence) bool) bool {
	switch t.Kind {
	case api.TermVar:
		o.name = t.Name
		return yield(o)
	case api.TermFun:
		o.depth++
	case api.TermOp:
		o.depth++
		o.plain = false
	default:
		o.plain = false
	}
	for _, arg := range t.Args {
		if !visit(arg, o, yield) {
			return false
		}
	}
	return true
}
