package format_test

import (
	"reflect"
	"testing"

	"ostler/api"
	"ostler/format"
)

// P5.3

// same reports whether all fields are equal, where a nil slice equals an empty one.
func same(a, b any) bool { return sameValue(reflect.ValueOf(a), reflect.ValueOf(b)) }

func sameValue(a, b reflect.Value) bool {
	switch a.Kind() {
	case reflect.Struct:
		for i := range a.NumField() {
			if !sameValue(a.Field(i), b.Field(i)) {
				return false
			}
		}
		return true
	case reflect.Slice:
		for i := range min(a.Len(), b.Len()) {
			if !sameValue(a.Index(i), b.Index(i)) {
				return false
			}
		}
		return a.Len() == b.Len()
	}
	return a.Equal(b)
}

// visit visits a value and all values in it, each after the values in it.
func visit(v reflect.Value, f func(reflect.Value)) {
	switch v.Kind() {
	case reflect.Struct:
		for i := range v.NumField() {
			visit(v.Field(i), f)
		}
	case reflect.Slice:
		for i := range v.Len() {
			visit(v.Index(i), f)
		}
	}
	f(v)
}

// fill makes all fields in a value other than zero, and all slices two items long, but terms only so many levels deep.
func fill(v reflect.Value, levels int) {
	switch v.Kind() {
	case reflect.Struct:
		for i := range v.NumField() {
			fill(v.Field(i), levels)
		}
	case reflect.Slice:
		term := v.Type() == reflect.TypeFor[[]api.Term]()
		if term && levels == 0 {
			return
		}
		if term {
			levels--
		}
		v.Set(reflect.MakeSlice(v.Type(), 2, 2))
		fill(v.Index(0), levels)
		fill(v.Index(1), levels)
	default:
		step(v)
	}
}

// step changes a value that is not a struct.
func step(v reflect.Value) {
	switch v.Kind() {
	case reflect.Bool:
		v.SetBool(!v.Bool())
	case reflect.Uint8:
		v.SetUint(v.Uint() + 1)
	case reflect.Int:
		v.SetInt(v.Int() + 1)
	case reflect.String:
		v.SetString(v.String() + "a")
	case reflect.Slice:
		v.Set(reflect.Append(v.Slice3(0, v.Len(), v.Len()), reflect.Zero(v.Type().Elem())))
	}
}

// checkAllFields checks that two values that are equal are not after any change of one of them.
func checkAllFields[T any](t *testing.T, equal func(a, b T) bool) {
	t.Helper()
	var a, b T
	fill(reflect.ValueOf(&a).Elem(), 2)
	fill(reflect.ValueOf(&b).Elem(), 2)
	changes := 0
	check := func(old reflect.Value, want bool) {
		changes++
		if equal(a, b) != want || equal(b, a) != want {
			t.Fatalf("change %d of %v: equality is not %v", changes, old, want)
		}
	}
	visit(reflect.ValueOf(&b).Elem(), func(v reflect.Value) {
		if v.Kind() == reflect.Struct {
			return
		}
		old := reflect.New(v.Type()).Elem()
		old.Set(v)
		step(v)
		check(old, false)
		if v.Kind() == reflect.Slice && old.Len() > 0 {
			v.Set(old.Slice(0, old.Len()-1))
			check(old, false)
		}
		v.Set(old)
		check(old, true)
	})
	if changes < 1000 {
		t.Error("only", changes, "changes")
	}
}

func TestSameRuleComparesAllFields(t *testing.T) { checkAllFields(t, format.SameRule) }

func TestSameComparesAllFields(t *testing.T) { checkAllFields(t, format.Same) }

// TestEmptySlices compares nil slices with empty ones, in parts of every type.
func TestEmptySlices(t *testing.T) {
	var a, b api.Prog
	fill(reflect.ValueOf(&a).Elem(), 1)
	fill(reflect.ValueOf(&b).Elem(), 1)
	visit(reflect.ValueOf(&b).Elem(), func(v reflect.Value) {
		if v.Kind() == reflect.Slice && v.IsNil() {
			v.Set(reflect.MakeSlice(v.Type(), 0, 1))
		}
	})
	a.Rules[1], b.Rules[1] = api.Rule{}, api.Rule{Heads: []api.Head{}, Body: []api.Body{}, Tuple: []api.Term{}}
	a.Rules[0].Heads[1], b.Rules[0].Heads[1] = api.Head{}, api.Head{Atom: api.Atom{Args: []api.Term{}}, Cond: []api.Lit{}}
	a.Rules[0].Body[1], b.Rules[0].Body[1] = api.Body{}, api.Body{Cond: []api.Lit{}, Elems: []api.Elem{}}
	a.Rules[0].Body[0].Elems[1], b.Rules[0].Body[0].Elems[1] = api.Elem{}, api.Elem{Tuple: []api.Term{}, Cond: []api.Lit{}}
	if !format.Same(a, b) || !format.Same(b, a) || !format.SameRule(a.Rules[0], b.Rules[0]) || !format.SameRule(b.Rules[1], a.Rules[1]) {
		t.Error("nil slices differ from empty ones")
	}
	if !format.Same(api.Prog{}, api.Prog{Rules: []api.Rule{}, Consts: []api.Const{}, Shows: []api.Sig{}}) {
		t.Error("the zero program differs from an empty one")
	}
}

func TestOrderMatters(t *testing.T) {
	a, b := ruleOf(t, "a | b :- c, d."), ruleOf(t, "b | a :- c, d.")
	if format.SameRule(a, b) || format.SameRule(a, ruleOf(t, "a | b :- d, c.")) || !format.SameRule(a, ruleOf(t, "a|b:-c;d.")) {
		t.Error("rules")
	}
	p := programOf(t, "a. b. #const n = 1. #const m = 1. #show a/0. #show b/0.")
	for _, src := range []string{"b. a. #const n = 1. #const m = 1. #show a/0. #show b/0.", "a. b. #const m = 1. #const n = 1. #show a/0. #show b/0.", "a. b. #const n = 1. #const m = 1. #show b/0. #show a/0."} {
		if format.Same(p, programOf(t, src)) {
			t.Errorf("%q", src)
		}
	}
}
