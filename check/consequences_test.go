package check_test

import (
	"reflect"
	"slices"
	"testing"

	"ostler/api"
	"ostler/check"
	"ostler/format"
	"ostler/parse"
)

// programs calls a function for many random programs.
func programs(t *testing.T, seed uint64, count int, f func(src string, p api.Prog)) {
	t.Helper()
	g := newRandom(seed)
	for range count {
		src := g.program()
		if _, _, e := parse.Parse(src); e == api.ErrMany {
			continue // a term is too deep
		}
		f(src, programOf(t, src))
		if t.Failed() {
			t.Fatal(src)
		}
	}
}

// TestRandomPrograms compares the functions with the definitions of the chapter.
func TestRandomPrograms(t *testing.T) {
	errors := map[api.Errno]int{}
	programs(t, 1, 4000, func(src string, p api.Prog) {
		consts, e := referenceCheck(p)
		if got := check.Check(p); got != e {
			t.Errorf("Check: error %d, want %d", got, e)
		}
		l, got := check.Consts(p)
		if got != e || !format.Same(api.Prog{Consts: l}, api.Prog{Consts: consts}) {
			t.Errorf("Consts: %v, error %d, want %v, error %d", l, got, consts, e)
		}
		want, e := referenceDesugar(p)
		d, got := check.Desugar(p)
		if got != e || !format.Same(d, want) {
			text, _ := format.Program(d)
			t.Errorf("Desugar: %q, error %d, want error %d", text, got, e)
		}
		errors[e]++
	})
	for _, e := range []api.Errno{api.OK, check.ErrRange, check.ErrConst, api.ErrMany} {
		if errors[e] < 40 {
			t.Error("only", errors[e], "programs with error", e)
		}
	}
}

// P6.4

func TestResultsOfDesugar(t *testing.T) {
	right := 0
	programs(t, 2, 3000, func(src string, p api.Prog) {
		d, e := check.Desugar(p)
		if e != api.OK {
			return
		}
		right++
		if e := check.Check(d); e != api.OK || len(d.Consts) > 0 {
			t.Errorf("%d constants, error %d", len(d.Consts), e)
		}
		if contains(&d, func(t *api.Term) bool { return t.Kind == api.TermVar && t.Name == "_" }) {
			t.Error("an anonymous variable")
		}
		consts, _ := check.Consts(p)
		for _, c := range consts {
			if contains(&d.Rules, func(t *api.Term) bool { return t.Kind == api.TermSym && t.Name == c.Name }) {
				t.Error("a constant")
			}
		}
		if again, e := check.Desugar(d); e != api.OK || !format.Same(again, d) {
			t.Error("desugared twice")
		}
	})
	if right < 500 {
		t.Error("only", right, "programs without errors")
	}
}

func TestOrderOfConstantsDoesNotMatter(t *testing.T) {
	g := newRandom(3)
	programs(t, 4, 2000, func(src string, p api.Prog) {
		q := p
		q.Consts = slices.Clone(p.Consts)
		g.Shuffle(len(q.Consts), func(i, k int) { q.Consts[i], q.Consts[k] = q.Consts[k], q.Consts[i] })
		d, e := check.Desugar(p)
		l, _ := check.Consts(p)
		d2, e2 := check.Desugar(q)
		l2, _ := check.Consts(q)
		if check.Check(p) != check.Check(q) || e != e2 || !format.Same(d, d2) || !format.Same(api.Prog{Consts: l}, api.Prog{Consts: l2}) {
			t.Errorf("errors %d and %d", e, e2)
		}
	})
}

// R3

// block is the memory of a slice.
type block struct{ from, to uintptr }

// memory returns the memory of all slices in a value.
func memory(v reflect.Value) []block {
	var l []block
	switch v.Kind() {
	case reflect.Struct:
		for i := range v.NumField() {
			l = append(l, memory(v.Field(i))...)
		}
	case reflect.Slice:
		if v.Cap() > 0 {
			l = append(l, block{v.Pointer(), v.Pointer() + uintptr(v.Cap())*v.Type().Elem().Size()})
		}
		for i := range v.Len() {
			l = append(l, memory(v.Index(i))...)
		}
	}
	return l
}

// spare gives room to all slices in a value, be they empty.
func spare(v reflect.Value) {
	switch v.Kind() {
	case reflect.Struct:
		for i := range v.NumField() {
			spare(v.Field(i))
		}
	case reflect.Slice:
		room := reflect.MakeSlice(v.Type(), v.Len(), v.Len()+2)
		reflect.Copy(room, v)
		v.Set(room)
		for i := range v.Len() {
			spare(v.Index(i))
		}
	}
}

// unused reports whether the room of all slices in a value is as spare left it.
func unused(v reflect.Value) bool {
	switch v.Kind() {
	case reflect.Struct:
		for i := range v.NumField() {
			if !unused(v.Field(i)) {
				return false
			}
		}
	case reflect.Slice:
		for i := range v.Cap() {
			item := v.Slice(0, v.Cap()).Index(i)
			if i < v.Len() && !unused(item) || i >= v.Len() && !item.IsZero() {
				return false
			}
		}
	}
	return true
}

func TestMemoryIsNotShared(t *testing.T) {
	programs(t, 5, 1000, func(src string, p api.Prog) {
		spare(reflect.ValueOf(&p).Elem())
		before := copied(p)
		d, _ := check.Desugar(p)
		l, _ := check.Consts(p)
		check.Check(p)
		blocks := slices.Concat(memory(reflect.ValueOf(p)), memory(reflect.ValueOf(d)), memory(reflect.ValueOf(l)))
		slices.SortFunc(blocks, func(a, b block) int { return int(a.from) - int(b.from) })
		for i := range len(blocks) - 1 {
			if blocks[i].to > blocks[i+1].from {
				t.Error("two slices share memory")
			}
		}
		if !format.Same(p, before) || !unused(reflect.ValueOf(p)) {
			t.Error("the argument was changed")
		}
	})
}
