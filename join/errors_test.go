package join_test

import (
	"slices"
	"strings"
	"testing"

	"ostler/api"
	"ostler/join"
	"ostler/store"
)

// P12.2

func checkError(t *testing.T, src string, s *store.Store, b string, want api.Errno) {
	t.Helper()
	got, e := join.Join(litsOf(t, src), s, bindingOf(t, b))
	if e != want || e != api.OK && len(got) > 0 {
		t.Errorf("%s with %s: %d bindings and error %d, want %d", src, b, len(got), e, want)
	}
}

// notStores returns objects that are not stores.
func notStores() []*store.Store {
	s := store.New()
	s.Add(atom("p", number(1)))
	value := *s
	overwritten := store.New()
	*overwritten = value
	return []*store.Store{nil, {}, &value, overwritten}
}

func TestStores(t *testing.T) {
	many, invalid := litsOf(t, "p(1..2000)"), []api.Lit{{}}
	for i, s := range notStores() {
		for _, l := range [][]api.Lit{nil, litsOf(t, "p(X)"), litsOf(t, "X < Y"), many, invalid} {
			for _, b := range []api.Binding{nil, {pair("X", number(1))}, {pair("X", variable("X"))}} {
				if got, e := join.Join(l, s, b); e != api.ErrNil || len(got) > 0 {
					t.Error(i, got, e)
				}
			}
		}
	}
	s := storeOfText(t, "p(1)")
	for _, s := range []*store.Store{store.New(), s, s.Copy(), s.Copy().Copy()} {
		if _, e := join.Join(litsOf(t, "p(X)"), s, nil); e != api.OK {
			t.Error(e)
		}
	}
}

func TestArguments(t *testing.T) {
	s := storeOfText(t, "p(1)")
	valid := [][]api.Lit{nil, litsOf(t, "p(X)"), litsOf(t, "X < Y"), litsOf(t, "p(1..2000)")}
	reject := func(l []api.Lit, b api.Binding) {
		t.Helper()
		if got, e := join.Join(l, s, b); e != api.ErrArg || len(got) > 0 {
			t.Errorf("%s with %s: %v and error %d", short(litsText(l)), short(bindingText(b)), got, e)
		}
	}
	for _, v := range invalidTerms() {
		for _, l := range valid {
			reject(append(l, positive("p", v)), nil)
			reject(append(l, comparison(number(1), api.OpEq, v)), nil)
		}
	}
	reject([]api.Lit{{}}, nil)
	reject([]api.Lit{{Kind: api.LitComp, Op: api.OpEq, Not: true, L: number(1), R: number(1)}}, nil)
	reject([]api.Lit{positive("p", ones(9)...)}, nil)
	reject([]api.Lit{positive("not")}, nil)
	for _, v := range append(invalidTerms(), notValues()...) {
		for _, l := range valid {
			reject(l, api.Binding{pair("X", v)})
			reject(l, api.Binding{pair("A", number(1)), pair("X", v), pair("Y", number(1))})
		}
	}
	for _, names := range []string{"X X", "Y X", "X Y Y", "X Z Y", "a X", "XX X", "#2 #10", "_ Z", " "} {
		var b api.Binding
		for name := range strings.SplitSeq(names, " ") {
			b = append(b, pair(name, number(1)))
		}
		for _, l := range valid {
			reject(l, b)
		}
	}
	for _, names := range []string{"X", "X Y", "A B", "# #1 #10 #2 X", " X", "X Y _", "\x00 \xff", "X Xx XxX a aa", "not"} {
		var b api.Binding
		for name := range strings.SplitSeq(names, " ") {
			b = append(b, pair(name, tower(12, number(1))))
		}
		if got, e := join.Join(nil, s, b); e != api.OK || len(got) != 1 || !slices.EqualFunc(got[0], b, equalPairs) {
			t.Error(names, got, e)
		}
	}
}

func TestUnsafe(t *testing.T) {
	s := storeOfText(t, "p(1) p(2)")
	for _, src := range []string{
		"not p(X)", "not p(f(X,1))", "not p(X+1)", "not p(1..X)", "X < 1", "X != 1", "1 <= X", "X >= X", "X > Y", "X = X", "X = X+1", "X = f(X)", "X = Y", "X = Y, Y = X", "X = Y+1, Y = X-1", "X+1 = 2", "f(X) = f(1)", "1..X = 3", "X+1 = Y+1", "p(X+1)", "p(1..X)", "p(f(X*1))", "p(X), Y < X", "p(X), not p(Y)", "p(X), not p(Y+X)", "p(X), p(Y-1)", "p(X), Y = Z", "p(X), f(Y) = X", "X = 1, not p(X), not p(Y)", "p(X), X = Y+1", "X != 1..2", "p(_), not p(_1)", "p(H_1), not p(H_2)", "X = Y, p(f(X+1))",
	} {
		checkError(t, src, s, "", join.ErrUnsafe)
		checkError(t, src, store.New(), "", join.ErrUnsafe)
		checkError(t, "p(V), "+src, s, "A=1 XX=1", join.ErrUnsafe)
		checkError(t, "1 = 2, q(V), "+src, s, "", join.ErrUnsafe)
		checkError(t, "V = 1..2000, "+src, s, "", join.ErrUnsafe)
		checkError(t, src+", V = f(A)", s, "A=f(f(f(f(f(f(f(f(f(f(f(1)))))))))))", join.ErrUnsafe)
		checkError(t, src, s, "#1=1 #2=2 X=1 Y=2 Z=3 _1=4", api.OK)
	}
	for _, src := range []string{"X = 1", "1 = X", "X = Y, Y = 1", "Y = 1, X = Y", "X = Y, X = 1", "p(X), X = Y", "not p(X), p(X)", "not p(X+1), X = Y+1, p(Y)", "X < Y, X = Z, p(f(X)), Y = Z, Z = X", "p(X), Y = X+1, Z = X+Y, X+Y+Z < 9", "p(f(_))", "p(X), p(X+1)", "p(X+1), p(Y), X = Y", "p(H_1), not p(H_1+1)"} {
		checkError(t, src, s, "", api.OK)
	}
}

// chain returns equations each of which binds the variable of the one before it.
func chain(length int) []api.Lit {
	var l []api.Lit
	name := func(i int) string { return "#" + strings.Repeat("a", i) }
	for i := range length {
		l = append(l, comparison(variable(name(i)), api.OpEq, operation("+", variable(name(i+1)), number(1))))
	}
	return append(l, comparison(variable(name(length)), api.OpEq, number(0)))
}

func TestLongLists(t *testing.T) {
	got, e := join.Join(chain(300), store.New(), nil)
	if e != api.OK || len(got) != 1 || len(got[0]) != 301 || got[0][0].Val.Num != 300 || got[0][300].Val.Num != 0 {
		t.Error(len(got), e)
	}
	if got, e := join.Join(chain(300)[:300], store.New(), nil); e != join.ErrUnsafe || len(got) > 0 {
		t.Error(len(got), e)
	}
	var l []api.Lit
	for i := range 1000 {
		l = append(l, positive("p", variable("#"+strings.Repeat("x", i)), number(1)))
	}
	got, e = join.Join(l, storeOfText(t, "p(1,1) p(2,2)"), nil)
	if e != api.OK || len(got) != 1 || len(got[0]) != 1000 {
		t.Error(len(got), e)
	}
}

func TestTooDeep(t *testing.T) {
	deep := "X=f(f(f(f(f(f(f(f(f(f(f(1)))))))))))" // its depth is 12
	less := "X=f(f(f(f(f(f(f(f(f(f(1))))))))))"
	s := storeOfText(t, "p(1) p(f(f(f(f(f(f(f(f(f(f(f(1))))))))))))")
	for _, src := range []string{
		"Y = f(X)", "f(X) = Y", "Y = f(a,X)", "Y = X+1", "Y = -X", "Y = 1..X", "f(X) < 1", "1 >= f(X)", "f(X) = f(X)", "1 = 2, p(X), f(X) != 1, 1 = 1", "p(X+1)", "p(f(X+1))", "not p(X+1)", "not p(1..X)",
	} {
		want := api.ErrLong
		if strings.HasPrefix(src, "1 = 2") {
			want = api.OK
		}
		checkError(t, src, s, deep, want)
		checkError(t, src, store.New(), deep, want)
		checkError(t, src, s, less, api.OK)
		if strings.Contains(src, "f(X)") {
			checkError(t, strings.ReplaceAll(src, "f(X)", "f(f(X))"), s, less, want)
		}
	}
	for _, src := range []string{"p(f(X))", "not p(f(X))", "not p(f(f(f(f(f(f(f(f(f(f(f(X))))))))))))", "p(X)", "X = Y", "Y = X", "X != 1..2", "Y = f(X), 1 = 2", "1 = 2, Y = f(X)"} {
		want := api.OK
		if src == "Y = f(X), 1 = 2" {
			want = api.ErrLong
		}
		checkError(t, src, s, deep, want)
	}
	checkJoin(t, litsOf(t, "Y = f(X)"), s, bindingOf(t, less), less+" Y=f("+less[2:]+")", api.OK)
	checkJoin(t, litsOf(t, "not q(f(X))"), s, bindingOf(t, deep), deep, api.OK)
	checkError(t, "p(1..f(X))", s, less, api.ErrLong)
	checkError(t, "not p(1..f(X))", s, less[:2]+less[4:len(less)-1], api.OK)
	// The variable is bound by an atom.
	checkError(t, "p(X), Y = f(X)", s, "", api.ErrLong)
	checkError(t, "p(X), X != 1, 1 < f(X)", s, "", api.ErrLong)
	checkError(t, "p(X), X <= 1, 1 < f(X)", s, "", api.OK)
	checkError(t, "p(X), 1 < f(X), X <= 1", s, "", api.ErrLong)
	checkError(t, "p(X), 1 < f(X), X = 1", s, "", api.OK)
	checkError(t, "p(X), not p(X+1)", s, "", api.ErrLong)
	checkError(t, "p(X), not p(f(X))", s, "", api.OK)
}

func TestTooManyExpansions(t *testing.T) {
	s := storeOfText(t, "n(1000) n(1001) p(1)")
	for _, src := range []string{"X = 1..1001", "1..1001 = X", "1..1001 < 1", "1 = 1..1001", "3..1 = 1..1001", "1..1001 = 3..1", "X = (1..1001)*0", "X = f(1..10,1..101)", "f(1..32,1..32) != 1", "p(1..1001)", "p(f(1..1001))", "not p(1..1001)", "n(X), Y = 1..X", "n(X), Y = X-1000, not p(0..1000+Y)", "p(X), 1..1001 > X", "n(X), p(1..X)"} {
		checkError(t, src, s, "", api.ErrMany)
	}
	for _, src := range []string{"X = 1..1000", "1..1000 < 1", "1..1000 != 1..1000", "X = f(1..10,1..100)", "p(1..1000)", "not p(1..1000)", "n(X), X = 1000, Y = 1..X", "p(f(1..100,1..100))", "not p(f(1..100,1..100))"} {
		checkError(t, src, s, "", api.OK)
	}
}

func TestTooManyBindings(t *testing.T) {
	s := storeOfText(t, "n(1..200) m(1..100) e(1..27,1..27) d(1..28,1..28) one(1)")
	for src, count := range map[string]int{
		"X = 1..200, Y = 1..100":                  20000,
		"X = 1..1000, Y = 1..20":                  20000,
		"n(X), m(Y)":                              20000,
		"n(X), m(Y), one(1), one(Z), X < 500":     20000,
		"m(X), n(1..200)":                         100,
		"not q(1..200), not q(1..100)":            1,
		"n(X), Y = 1..100":                        20000,
		"n(X), f(Y,X) = f(1..100,X), Y = 1..100":  20000,
		"e(X,Y), e(Y,Z)":                          27 * 27 * 27,
		"n(X), m(Y), X = Y":                       100,
		"X = 1..1000, Y = 1..20, X <= Y":          210,
		"X = 1..1000, X < 3, Y = 1..1000, Y <= X": 3,
	} {
		if got, e := join.Join(litsOf(t, src), s, nil); len(got) != count || e != api.OK {
			t.Errorf("%s: %d bindings and error %d, want %d", src, len(got), e, count)
		}
	}
	for _, src := range []string{"X = 1..59, Y = 1..113, Z = 1..3", "X = 1..201, Y = 1..100", "n(X), Y = 1..101", "n(X), m(Y), n(Z)", "d(X,Y), d(Y,Z)", "X = 1..1000, Y = 1..1000, X = Y, X < 2", "n(X), m(Y), n(Z), X <= Y, X >= Z", "not q(1..200), not q(1..101)", "one(X), not q(1..201), not q(1..100), one(2)", "n(X), n(Y), one(2)", "X = 1..59, Y = 1..113, Z = 1..3, X < 1"} {
		checkError(t, src, s, "", api.ErrMany)
	}
}

// TestOrderOfErrors checks which error is returned if several apply.
func TestOrderOfErrors(t *testing.T) {
	deep := "A=f(f(f(f(f(f(f(f(f(f(f(1)))))))))))"
	s := storeOf(t, append(atomsOf(t, "n(1..300) p(2000) p(3) q(1) q(2) one(1)"), atom("p", tower(12, number(1))))...)
	late := storeOf(t, append([]api.Atom{atom("p", tower(12, number(1)))}, atomsOf(t, "n(1..300) p(3) p(2000) q(1) q(2) one(1)")...)...)
	for src, want := range map[string]api.Errno{
		// In the order of processing.
		"X = f(A), Y = 1..1001": api.ErrLong, "Y = 1..1001, X = f(A)": api.ErrMany,
		"n(X), 1..1001 < 2, 1 < f(A)": api.ErrMany, "n(X), 1 < f(A), 1..1001 < 2": api.ErrLong, "n(X), n(Y), f(A) < 1..1001": api.ErrLong,
		"n(X), n(Y), Z = f(A)": api.ErrLong, "n(X), n(Y), f(A,X,Y) = Z": api.ErrMany, "n(X), f(A,X) = Z, n(Y)": api.ErrLong,
		"X = 1..200, Y = 1..200, Z = f(A)": api.ErrMany, "X = 1..200, Z = f(A), Y = 1..200": api.ErrLong, "X = 1..200, Y = 1..200, n(1..1001)": api.ErrMany,
		"p(X+0), q(X)": api.OK, "q(X), p(1..1001)": api.ErrMany,
		// Nothing is left.
		"1 = 2, X = 1..1001": api.OK, "X = 1..1001, 1 = 2": api.ErrMany, "1 = 2, X = f(A)": api.OK, "X = f(A), 1 = 2": api.ErrLong, "r(X), Y = X..1001": api.OK, "r(X), Y = 1..1001": api.ErrMany, "r(X), n(Y), n(Z)": api.OK, "n(Y), n(Z), r(X)": api.ErrMany,
		// In one step.
		"p(X), 1..X = 2": api.ErrLong, "p(X), f(X) = 1..X": api.ErrLong, "p(X), f(X) = 1": api.ErrLong, "p(X), X = 3, 1..X = 2": api.OK, "p(X), f(X) < 1..1001": api.ErrLong, "p(X), Z = (1..1001)*X": api.ErrLong,
		"Z = 1..1000, p(X), Y = f(X,1..100)": api.ErrLong, "Z = 1..1000, p(X), X = 3, Y = f(X,1..100)": api.ErrMany, "p(X), n(Z), f(X,1..1001) != 1": api.ErrLong, "f(A) = 1..1001": api.ErrLong, "1..1001 = f(A)": api.ErrLong, "X = f(A,1..1001)": api.ErrLong,
	} {
		for _, s := range []*store.Store{s, late} {
			checkError(t, src, s, deep, want)
		}
	}
}
