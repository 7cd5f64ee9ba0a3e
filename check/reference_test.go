package check_test

import (
	"reflect"
	"slices"
	"strconv"

	"ostler/api"
	"ostler/arith"
	"ostler/check"
	"ostler/format"
	"ostler/parse"
	"ostler/term"
)

// The functions of this file are the definitions of the chapter, without regard to time and memory.

// visit visits all terms in a value, each before its arguments. The fields of a rule are declared in the order of its terms.
func visit(v reflect.Value, f func(*api.Term)) {
	switch v.Kind() {
	case reflect.Struct:
		if t, ok := v.Addr().Interface().(*api.Term); ok {
			f(t)
		}
		for i := range v.NumField() {
			visit(v.Field(i), f)
		}
	case reflect.Slice:
		for i := range v.Len() {
			visit(v.Index(i), f)
		}
	}
}

// visitAll visits all terms in what a pointer points to.
func visitAll(p any, f func(*api.Term)) { visit(reflect.ValueOf(p).Elem(), f) }

func contains(p any, test func(*api.Term) bool) bool {
	found := false
	visitAll(p, func(t *api.Term) { found = found || test(t) })
	return found
}

func isInterval(t *api.Term) bool { return t.Kind == api.TermRange }

// copied returns a copy of a program that must have a source, made by formatting and parsing it.
func copied(p api.Prog) api.Prog {
	src, _ := format.Program(p)
	c, _, _ := parse.Parse(src)
	return c
}

// substitute replaces symbols in what a pointer points to.
func substitute(p any, values map[string]api.Term) {
	visitAll(p, func(t *api.Term) {
		if v, ok := values[t.Name]; ok && t.Kind == api.TermSym {
			*t = v
		}
	})
}

// referenceConsts evaluates the constants whose definitions depend on no others, and so on.
func referenceConsts(p api.Prog) ([]api.Const, bool) {
	values := map[string]api.Term{}
	open := map[string]bool{}
	left := copied(p).Consts
	for _, c := range left {
		if open[c.Name] {
			return nil, false
		}
		open[c.Name] = true
	}
	for len(left) > 0 {
		i := slices.IndexFunc(left, func(c api.Const) bool {
			return !contains(&c, func(t *api.Term) bool { return t.Kind == api.TermSym && open[t.Name] })
		})
		if i < 0 {
			return nil, false
		}
		substitute(&left[i].Val, values)
		v, ok := arith.Eval(left[i].Val)
		parts := 0
		visitAll(&v, func(*api.Term) { parts++ })
		if !ok || parts > 1000 {
			return nil, false
		}
		values[left[i].Name] = v
		delete(open, left[i].Name)
		left = slices.Delete(left, i, i+1)
	}
	var l []api.Const
	for name, v := range values {
		l = append(l, api.Const{Name: name, Val: v})
	}
	slices.SortFunc(l, func(a, b api.Const) int { return term.Compare(symbol(a.Name), symbol(b.Name)) })
	return l, true
}

func referenceCheck(p api.Prog) ([]api.Const, api.Errno) {
	if _, e := format.Program(p); e == api.ErrArg {
		return nil, check.ErrForm
	}
	for _, r := range copied(p).Rules {
		single := []api.Term{r.Lower, r.Upper, r.Weight, r.Level}
		for _, b := range r.Body {
			single = append(single, b.Bound)
		}
		if contains(&single, isInterval) {
			return nil, check.ErrRange
		}
	}
	l, valid := referenceConsts(p)
	if !valid {
		return nil, check.ErrConst
	}
	return l, api.OK
}

func referenceDesugar(p api.Prog) (api.Prog, api.Errno) {
	l, e := referenceCheck(p)
	if e != api.OK {
		return api.Prog{}, e
	}
	values := map[string]api.Term{}
	for _, c := range l {
		values[c.Name] = c.Val
	}
	d := copied(p)
	d.Consts = nil
	for i := range d.Rules {
		substitute(&d.Rules[i], values)
		number := 0
		var names []string
		visitAll(&d.Rules[i], func(t *api.Term) { names = append(names, t.Name) })
		visitAll(&d.Rules[i], func(t *api.Term) {
			if t.Kind != api.TermVar || t.Name != "_" {
				return
			}
			for t.Name == "_" || slices.Contains(names, t.Name) {
				number++
				t.Name = "_" + strconv.Itoa(number)
			}
		})
	}
	if _, e := format.Program(d); e == api.ErrArg {
		return api.Prog{}, api.ErrMany
	}
	return d, api.OK
}
