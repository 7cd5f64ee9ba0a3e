package parse_test

import (
	"maps"
	"slices"

	"ostler/lex"
)

// reading is an attempt to read tokens in all ways that the grammar allows.
type reading struct {
	grammar map[string]form
	tokens  []lex.Token
	reached int
	known   map[place][]int
}

// place is a phrase at an index of the tokens.
type place struct {
	phrase string
	from   int
}

// form returns the indices at which a phrase that begins at an index may end.
type form func(r *reading, from int) []int

func one(test func(lex.Token) bool) form {
	return func(r *reading, from int) []int {
		r.reached = max(r.reached, from)
		if from < len(r.tokens) && test(r.tokens[from]) {
			return []int{from + 1}
		}
		return nil
	}
}

func sign(texts ...string) form {
	return one(func(t lex.Token) bool { return slices.Contains(texts, t.Text) })
}

func kind(k lex.Kind) form {
	return one(func(t lex.Token) bool { return t.Kind == k })
}

func seq(forms ...form) form {
	return func(r *reading, from int) []int {
		ends := []int{from}
		for _, f := range forms {
			ends = f.fromAll(r, ends)
		}
		return ends
	}
}

func alt(forms ...form) form {
	return func(r *reading, from int) []int {
		ends := map[int]bool{}
		for _, f := range forms {
			for _, end := range f(r, from) {
				ends[end] = true
			}
		}
		return slices.Sorted(maps.Keys(ends))
	}
}

func opt(forms ...form) form { return alt(seq(forms...), seq()) }

func rep(forms ...form) form {
	return func(r *reading, from int) []int {
		ends := map[int]bool{from: true}
		for last := []int{from}; len(last) > 0; {
			last = seq(forms...).fromAll(r, last)
			last = slices.DeleteFunc(last, func(end int) bool { return ends[end] })
			for _, end := range last {
				ends[end] = true
			}
		}
		return slices.Sorted(maps.Keys(ends))
	}
}

func ref(phrase string) form {
	return func(r *reading, from int) []int {
		ends, known := r.known[place{phrase, from}]
		if !known {
			ends = r.grammar[phrase](r, from)
			r.known[place{phrase, from}] = ends
		}
		return slices.Clone(ends)
	}
}

func (f form) fromAll(r *reading, starts []int) []int {
	ends := map[int]bool{}
	for _, start := range starts {
		for _, end := range f(r, start) {
			ends[end] = true
		}
	}
	return slices.Sorted(maps.Keys(ends))
}

// grammar is the grammar of the chapter, with the two exceptions that it makes: for the separator after a condition, and for != after an aggregate.
func grammar() map[string]form {
	not, comma, semicolon, colon, dot := sign("not"), sign(","), sign(";"), sign(":"), sign(".")
	term, atom, literal, condition := ref("term"), ref("atom"), ref("literal"), ref("condition")
	plain, conditional, cost := ref("plain"), seq(literal, colon, condition), ref("cost")
	minimized := seq(cost, opt(colon, condition))
	return map[string]form{
		"program":   rep(ref("statement")),
		"statement": alt(seq(ref("rule"), dot), ref("weak"), seq(ref("directive"), dot)),
		"single":    alt(seq(ref("rule"), dot), ref("weak")),
		"rule":      alt(seq(ref("head"), opt(sign(":-"), ref("body"))), seq(sign(":-"), ref("body"))),
		"head":      alt(seq(atom, rep(sign("|"), atom)), seq(opt(term), sign("{"), ref("choice"), rep(semicolon, ref("choice")), sign("}"), opt(term))),
		"choice":    seq(atom, opt(colon, condition)),
		"body":      seq(rep(alt(seq(plain, alt(comma, semicolon)), seq(conditional, semicolon))), alt(plain, conditional)),
		"plain":     alt(literal, seq(opt(not), sign("#count", "#sum"), sign("{"), ref("tuple"), rep(semicolon, ref("tuple")), sign("}"), sign("=", "<", "<=", ">", ">="), term)),
		"tuple":     seq(term, rep(comma, term), opt(colon, condition)),
		"condition": seq(literal, rep(comma, literal)),
		"literal":   alt(seq(opt(not), atom), seq(term, sign("=", "!=", "<", "<=", ">", ">="), term)),
		"weak":      seq(sign(":~"), opt(ref("body")), dot, sign("["), cost, sign("]")),
		"cost":      seq(term, opt(sign("@"), term), rep(comma, term)),
		"directive": alt(seq(sign("#const"), kind(lex.Symbol), sign("="), term), seq(sign("#show"), opt(kind(lex.Symbol), sign("/"), kind(lex.Number))), seq(sign("#minimize"), sign("{"), minimized, rep(semicolon, minimized), sign("}"))),
		"atom":      seq(kind(lex.Symbol), opt(sign("("), term, rep(comma, term), sign(")"))),
		"term":      seq(ref("sum"), opt(sign(".."), ref("sum"))),
		"sum":       seq(ref("product"), rep(sign("+", "-"), ref("product"))),
		"product":   seq(ref("factor"), rep(sign("*", "/", "\\"), ref("factor"))),
		"factor":    alt(seq(sign("-"), ref("factor")), kind(lex.Number), kind(lex.Variable), atom, seq(sign("("), term, sign(")"))),
	}
}

// read reports whether tokens are a phrase, and otherwise the index of the first one with which no phrase can go on.
func read(grammar map[string]form, phrase string, tokens []lex.Token) (int, bool) {
	r := &reading{grammar: grammar, tokens: tokens, known: map[place][]int{}}
	ends := ref(phrase)(r, 0)
	return max(r.reached, slices.Max(append(ends, 0))), slices.Contains(ends, len(tokens))
}
