package format

import (
	"strings"

	"ostler/api"
	"ostler/term"
)

// writer writes the phrases of the grammar. What it writes of an invalid phrase is never parsed as that phrase.
type writer struct{ strings.Builder }

// list writes items, and after each but the last one its separator. It stops when the source is too long already: a small rule whose parts share memory can have an endless one.
func list[T any](w *writer, items []T, item func(*writer, T), separator func(T) string) {
	for i, x := range items {
		if w.Len() > api.MaxSource {
			return
		}
		if i > 0 {
			w.WriteString(separator(items[i-1]))
		}
		item(w, x)
	}
}

// separated writes items with the same separator between any two of them.
func separated[T any](w *writer, items []T, item func(*writer, T), separator string) {
	list(w, items, item, func(T) string { return separator })
}

// lines writes a line for each item, and reports whether all items have a source.
func lines[T any](w *writer, items []T, source func(T) (string, api.Errno)) bool {
	for _, x := range items {
		s, e := source(x)
		if e != api.OK {
			return false
		}
		w.WriteString(s)
		w.WriteString("\n")
	}
	return true
}

func (w *writer) program(p api.Prog) bool {
	if !lines(w, p.Consts, constant) || !lines(w, p.Rules, Rule) {
		return false
	}
	if p.Some {
		w.WriteString("#show.\n")
	}
	return lines(w, p.Shows, shown)
}

// rule writes nothing if the kind of the rule is unknown.
func (w *writer) rule(r api.Rule) {
	known := forms()
	if int(r.Kind) < len(known) && known[r.Kind] != nil {
		known[r.Kind](w, r)
	}
}

// forms returns the ways to write a rule, by its kind.
func forms() [api.RuleWeak + 1]func(*writer, api.Rule) {
	return [...]func(*writer, api.Rule){
		api.RuleDisj: func(w *writer, r api.Rule) {
			separated(w, r.Heads, (*writer).head, " | ")
			w.rest(r.Body)
		},
		api.RuleChoice: func(w *writer, r api.Rule) {
			w.choice(r)
			w.rest(r.Body)
		},
		api.RuleWeak: func(w *writer, r api.Rule) {
			w.WriteString(":~")
			if len(r.Body) > 0 {
				w.WriteString(" ")
				w.body(r.Body)
			}
			w.WriteString(". [")
			w.cost(r)
			w.WriteString("]")
		},
	}
}

// rest writes what follows the head of a rule, which may have written nothing.
func (w *writer) rest(body []api.Body) {
	if len(body) > 0 {
		if w.Len() > 0 {
			w.WriteString(" ")
		}
		w.WriteString(":- ")
		w.body(body)
	}
	w.WriteString(".")
}

// choice writes a choice with its bounds.
func (w *writer) choice(r api.Rule) {
	if r.Lower.Kind != 0 {
		w.term(r.Lower)
		w.WriteString(" ")
	}
	w.WriteString("{ ")
	separated(w, r.Heads, (*writer).head, "; ")
	w.WriteString(" }")
	if r.Upper.Kind != 0 {
		w.WriteString(" ")
		w.term(r.Upper)
	}
}

func (w *writer) head(h api.Head) {
	w.atom(h.Atom)
	w.condition(h.Cond)
}

func (w *writer) cost(r api.Rule) {
	w.term(r.Weight)
	w.WriteString("@")
	w.term(r.Level)
	if len(r.Tuple) > 0 {
		w.WriteString(",")
		w.terms(r.Tuple)
	}
}

func (w *writer) body(elements []api.Body) {
	list(w, elements, (*writer).element, func(b api.Body) string {
		if b.Kind == api.BodyCond {
			return "; "
		}
		return ", "
	})
}

func (w *writer) element(b api.Body) {
	if b.Kind == api.BodyAgg {
		w.aggregate(b)
		return
	}
	w.literal(b.Lit)
	w.condition(b.Cond)
}

func (w *writer) aggregate(b api.Body) {
	w.negation(b.Not)
	w.WriteString(function(b.Fun))
	w.WriteString("{ ")
	separated(w, b.Elems, (*writer).tuple, "; ")
	w.WriteString(" } " + operator(b.Op) + " ")
	w.term(b.Bound)
}

func (w *writer) tuple(e api.Elem) {
	w.terms(e.Tuple)
	w.condition(e.Cond)
}

// condition writes a condition with the colon before it, if there is one.
func (w *writer) condition(cond []api.Lit) {
	if len(cond) > 0 {
		w.WriteString(" : ")
		separated(w, cond, (*writer).literal, ", ")
	}
}

func (w *writer) literal(l api.Lit) {
	w.negation(l.Not)
	if l.Kind == api.LitAtom {
		w.atom(l.Atom)
		return
	}
	w.term(l.L)
	w.WriteString(" " + operator(l.Op) + " ")
	w.term(l.R)
}

func (w *writer) negation(not bool) {
	if not {
		w.WriteString("not ")
	}
}

func (w *writer) atom(a api.Atom) {
	w.WriteString(a.Pred)
	if len(a.Args) > 0 {
		w.WriteString("(")
		w.terms(a.Args)
		w.WriteString(")")
	}
}

func (w *writer) terms(l []api.Term) { separated(w, l, (*writer).term, ",") }

func (w *writer) term(t api.Term) { w.WriteString(text(t)) }

// text returns the text of a term, or nothing if the term is not valid or cannot fit into a source.
func text(t api.Term) string {
	if subterms(t, api.MaxSource) > api.MaxSource {
		return ""
	}
	return term.String(t)
}

// subterms counts a term and the terms in it, but stops above a limit, since a small term whose parts share memory can have an endless number of them.
func subterms(t api.Term, limit int) int {
	n := 1
	for _, a := range t.Args {
		if n > limit {
			break
		}
		n += subterms(a, limit-n)
	}
	return n
}

// function returns the text of an aggregate function, or nothing if it is unknown.
func function(fun uint8) string {
	switch fun {
	case api.AggCount:
		return "#count"
	case api.AggSum:
		return "#sum"
	}
	return ""
}

// operator returns the text of a comparison operator, or nothing if it is unknown.
func operator(op uint8) string {
	texts := [...]string{api.OpEq: "=", api.OpNe: "!=", api.OpLt: "<", api.OpLe: "<=", api.OpGt: ">", api.OpGe: ">="}
	if int(op) < len(texts) {
		return texts[op]
	}
	return ""
}
