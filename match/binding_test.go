package match_test

import (
	"slices"
	"strings"
	"testing"

	"ostler/api"
	"ostler/match"
	"ostler/term"
)

// P7.1

func TestValid(t *testing.T) {
	if !match.Valid(nil) || !match.Valid(api.Binding{}) {
		t.Error("the empty binding is valid")
	}
	for _, src := range []string{
		"X=1", "_=1", "X=1 Y=a Z=f(a,-2)", "A=1 AA=1 AB=1 B=1 _=1 _0=1 _00=1 _1=1 _10=1 _2=1 _A=1 __A=1", "X=-2147483647 Y=2147483647", "X=1 XY=1 X_=1 Xa=1 Y=1", "X=f(f(f(f(f(f(f(f(f(f(f(1)))))))))))",
		"X" + strings.Repeat("x", 31) + "=1",
	} {
		if !match.Valid(bindingOf(t, src)) {
			t.Errorf("%s is valid", src)
		}
	}
	for i, b := range invalidBindings() {
		if match.Valid(b) {
			t.Errorf("%d: %.200v is not valid", i, b)
		}
	}
}

func TestGet(t *testing.T) {
	b := bindingOf(t, "A=1 AA=2 B=f(a,g(3)) X=a Z=-4 _=5 _1=6")
	for _, x := range b {
		if v, ok := match.Get(b, x.Name); !ok || !term.Equal(v, x.Val) {
			t.Errorf("%s: %v, %v", x.Name, v, ok)
		}
	}
	for _, name := range []string{"", "a", "C", "AB", "AAA", "x", "Y", "_2", "_0", "__", "not", "X ", "X\x00", "\xff"} {
		checkUnbound(t, b, name)
		checkUnbound(t, nil, name)
	}
	for _, b := range invalidBindings() {
		checkUnbound(t, b, "X")
		checkUnbound(t, b, "Y")
		checkUnbound(t, b, b[0].Name)
	}
}

func checkUnbound(t *testing.T, b api.Binding, name string) {
	t.Helper()
	if v, ok := match.Get(b, name); ok || !term.Equal(v, api.Term{}) {
		t.Errorf("%q in %.200v: %v, %v", name, b, v, ok)
	}
}

func TestBind(t *testing.T) {
	for _, c := range []struct{ b, name, v, want string }{
		{"", "X", "1", "X=1"}, {"", "_", "f(a)", "_=f(a)"}, {"", "_12", "a", "_12=a"},
		{"X=1 Z=a", "Y", "f(2)", "X=1 Y=f(2) Z=a"}, {"X=1 Z=a", "A", "2", "A=2 X=1 Z=a"}, {"X=1 Z=a", "_Z", "2", "X=1 Z=a _Z=2"}, {"X=1 Z=a", "XX", "2", "X=1 XX=2 Z=a"}, {"XX=1", "X", "2", "X=2 XX=1"}, {"_1=1 _2=2", "_10", "10", "_1=1 _10=10 _2=2"},
		{"X=1 Z=a", "X", "1", "X=1 Z=a"}, {"X=1 Z=f(a,g(-1))", "Z", "f(a,g(-1))", "X=1 Z=f(a,g(-1))"},
		{"X=1 Z=a", "Y", "1", "X=1 Y=1 Z=a"}, {"X=1", "Y", "f(f(f(f(f(f(f(f(f(f(f(1)))))))))))", "X=1 Y=f(f(f(f(f(f(f(f(f(f(f(1)))))))))))"},
	} {
		b := bindingOf(t, c.b)
		if got, ok := match.Bind(b, c.name, termOf(t, c.v)); !ok || bindingText(got) != c.want || bindingText(b) != c.b {
			t.Errorf("%s with %s = %s: %s, %v", c.b, c.name, c.v, bindingText(got), ok)
		}
	}
}

func TestBindWithoutResult(t *testing.T) {
	b := bindingOf(t, "X=1 Z=f(a)")
	for _, v := range []string{"2", "-1", "a", "f(1)"} {
		checkNotBound(t, b, "X", termOf(t, v))
	}
	for _, v := range []string{"f(b)", "g(a)", "f(a,a)", "a", "1", "f", "f(f(a))"} {
		checkNotBound(t, b, "Z", termOf(t, v))
	}
	for _, name := range []string{"", "y", "not", "X Y", "__", "1", "_a", "_1a", "+", "X" + strings.Repeat("x", 32), "X\x00", "\xff"} {
		checkNotBound(t, b, name, number(1))
		checkNotBound(t, nil, name, number(1))
	}
	for _, v := range append(invalidTerms(), notValues()...) {
		checkNotBound(t, b, "Y", v)
		checkNotBound(t, b, "X", v)
		checkNotBound(t, nil, "X", v)
	}
	for _, b := range invalidBindings() {
		checkNotBound(t, b, "X", number(1))
		checkNotBound(t, b, "V", number(1))
	}
}

func checkNotBound(t *testing.T, b api.Binding, name string, v api.Term) {
	t.Helper()
	if got, ok := match.Bind(b, name, v); ok || len(got) != 0 {
		t.Errorf("%.200v with %q = %.200v: %v, %v", b, name, v, got, ok)
	}
}

// TestBindInEveryOrder builds a binding pair by pair.
func TestBindInEveryOrder(t *testing.T) {
	want := bindingOf(t, "A=1 AB=2 B=f(3) _=4 _1=a")
	var build func(b api.Binding, rest []api.Bind)
	build = func(b api.Binding, rest []api.Bind) {
		if !match.Valid(b) || len(rest) == 0 && !equalBindings(b, want) {
			t.Error(bindingText(b))
		}
		for i, x := range rest {
			longer, ok := match.Bind(b, x.Name, x.Val)
			if v, bound := match.Get(longer, x.Name); !ok || !bound || !term.Equal(v, x.Val) {
				t.Error(bindingText(longer), x, ok)
			}
			build(longer, slices.Delete(slices.Clone(rest), i, i+1))
		}
	}
	build(nil, want)
}
