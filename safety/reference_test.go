package safety_test

import (
	"reflect"
	"slices"
	"strings"

	"ostler/api"
)

// The functions of this file are the definitions of the chapter, without regard to time.

// variablesOf returns the variables that occur anywhere in a value, in increasing order.
func variablesOf(x any) []string {
	var names []string
	var visit func(v reflect.Value)
	visit = func(v reflect.Value) {
		if t, ok := v.Interface().(api.Term); ok && t.Kind == api.TermVar {
			names = append(names, t.Name)
		}
		switch v.Kind() {
		case reflect.Struct:
			for i := range v.NumField() {
				visit(v.Field(i))
			}
		case reflect.Slice:
			for i := range v.Len() {
				visit(v.Index(i))
			}
		}
	}
	visit(reflect.ValueOf(x))
	return distinct(names)
}

func distinct(names []string) []string {
	slices.Sort(names)
	return slices.Compact(names)
}

// without returns names except for those of a text that separates them by spaces.
func without(names []string, text string) []string {
	return slices.DeleteFunc(slices.Clone(names), func(name string) bool { return slices.Contains(strings.Fields(text), name) })
}

// literal returns a literal without what its kind does not use.
func literal(l api.Lit) api.Lit {
	switch l.Kind {
	case api.LitAtom:
		return api.Lit{Kind: l.Kind, Not: l.Not, Atom: l.Atom}
	case api.LitComp:
		return api.Lit{Kind: l.Kind, Not: l.Not, Op: l.Op, L: l.L, R: l.R}
	}
	return api.Lit{}
}

func literals(l []api.Lit) []api.Lit {
	var used []api.Lit
	for _, x := range l {
		used = append(used, literal(x))
	}
	return used
}

// element is an element of a rule: all of it, and its condition.
type element struct {
	all  any
	cond []api.Lit
}

// divide returns the elements of a rule, the literals of its body, and all that is outside of the elements, without what kinds do not use.
func divide(r api.Rule) (elements []element, body []api.Lit, outside api.Rule) {
	outside = r
	outside.Heads, outside.Body = nil, nil
	for _, h := range r.Heads {
		h.Cond = literals(h.Cond)
		if r.Kind == api.RuleChoice {
			elements = append(elements, element{h, h.Cond})
		} else {
			outside.Heads = append(outside.Heads, h)
		}
	}
	for _, b := range r.Body {
		switch b.Kind {
		case api.BodyLit:
			body = append(body, literal(b.Lit))
			outside.Body = append(outside.Body, api.Body{Lit: literal(b.Lit)})
		case api.BodyCond:
			cond := literals(b.Cond)
			elements = append(elements, element{append([]api.Lit{literal(b.Lit)}, cond...), cond})
		case api.BodyAgg:
			outside.Body = append(outside.Body, api.Body{Bound: b.Bound})
			for _, e := range b.Elems {
				e.Cond = literals(e.Cond)
				elements = append(elements, element{e, e.Cond})
			}
		}
	}
	return elements, body, outside
}

// outerVariables returns the variables that occur in terms outside of operations and intervals.
func outerVariables(l []api.Term) []string {
	var names []string
	for _, t := range l {
		if t.Kind == api.TermOp || t.Kind == api.TermRange {
			continue
		}
		if t.Kind == api.TermVar {
			names = append(names, t.Name)
		}
		names = append(names, outerVariables(t.Args)...)
	}
	return names
}

// referenceBinds returns what a literal binds when some variables are bound.
func referenceBinds(l api.Lit, bound []string) []string {
	var names []string
	if l.Kind == api.LitAtom && !l.Not {
		names = outerVariables(l.Atom.Args)
	}
	if l.Kind == api.LitComp && !l.Not && l.Op == api.OpEq {
		for _, sides := range [][2]api.Term{{l.L, l.R}, {l.R, l.L}} {
			if sides[0].Kind == api.TermVar && contains(bound, variablesOf(sides[1])) {
				names = append(names, sides[0].Name)
			}
		}
	}
	return names
}

func contains(names, some []string) bool {
	return !slices.ContainsFunc(some, func(name string) bool { return !slices.Contains(names, name) })
}

func referenceBound(l []api.Lit, given []string) []string {
	bound := distinct(slices.Clone(given))
	for {
		more := slices.Clone(bound)
		for _, x := range l {
			more = append(more, referenceBinds(x, bound)...)
		}
		if more = distinct(more); len(more) == len(bound) {
			return bound
		}
		bound = more
	}
}

func referenceGlobal(r api.Rule) []string {
	_, _, outside := divide(r)
	return variablesOf(outside)
}

func referenceUnsafe(r api.Rule) []string {
	elements, body, _ := divide(r)
	global := referenceGlobal(r)
	var unsafe []string
	for _, name := range global {
		if !slices.Contains(referenceBound(body, nil), name) {
			unsafe = append(unsafe, name)
		}
	}
	for _, e := range elements {
		for _, name := range variablesOf(e.all) {
			if !slices.Contains(global, name) && !slices.Contains(referenceBound(e.cond, global), name) {
				unsafe = append(unsafe, name)
			}
		}
	}
	return distinct(unsafe)
}
