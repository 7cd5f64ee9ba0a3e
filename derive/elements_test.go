package derive_test

import (
	"slices"
	"strings"
	"testing"

	"ostler/api"
	"ostler/derive"
	"ostler/join"
	"ostler/store"
)

// P13.1: Elements

func checkElements(t *testing.T, cond, concl, atoms, b, want string) {
	t.Helper()
	rows, e := derive.Elements(litsOf(t, cond), litsOf(t, concl), storeOf(t, atoms), bindingOf(t, b))
	if got := rowsText(rows); e != api.OK || got != want {
		t.Errorf("%s : %s with %s: error %d, %s, want %s", concl, cond, b, e, short(got), short(want))
	}
}

func TestElements(t *testing.T) {
	for _, c := range []struct{ cond, concl, atoms, b, want string }{
		{"p(X)", "q(X)", "p(1..3)", "", "q(1) | q(2) | q(3)"},
		{"p(X)", "q(X)", "q(1..3) p", "", ""},
		{"", "q", "", "", "q"},
		{"", "not q", "q", "", "not q"},
		{"p(X), X > 1", "not q(X,X), f(X) < X, r, q(f(X,a))", "p(1..3)", "", "not q(2,2), f(2)<2, r, q(f(2,a)) | not q(3,3), f(3)<3, r, q(f(3,a))"},
		// The atoms of negative literals of the condition must not be in the store, those of negative conclusions may be.
		{"p(X), not r(X)", "q(X)", "p(1..3) r(2)", "", "q(1) | q(3)"},
		{"p(X), not p(X)", "q(X)", "p(1..3)", "", ""},
		{"p(X), not r, not r(X,X)", "q(X)", "p(1..3) r(1,2) r(3,3)", "", "q(1) | q(2)"},
		{"p(X)", "not p(X)", "p(1..3)", "", "not p(1) | not p(2) | not p(3)"},
		{"p(X)", "w(X)", "p(1..2) w(1)", "", "w(1) | w(2)"},
		{"p(X)", "X < 2", "p(1..2) w(1,2)", "", "1<2 | 2<2"},
		// Each combination of expansions is an element of its own, also if its conclusions are equal.
		{"p(X)", "q(1..X)", "p(1..2)", "", "q(1) | q(1) | q(2)"},
		{"p(X,Y)", "q(X)", "p(1,2..3)", "", "q(1) | q(1)"},
		{"p(1..3)", "q", "p(2..9)", "", "q | q"},
		{"p(X), not r(X..X+1)", "q(X)", "p(1..3) r(2)", "", "q(1) | q(2) | q(3) | q(3)"},
		{"p(X), not r(X..X+1)", "", "p(1..2) r(2)", "", " | "},
		{"", "", "", "", ""},
		{"p(X)", "X = 1..2, 2..3 != X*2", "p(2)", "", "2=1, 2!=4 | 2=1, 3!=4 | 2=2, 2!=4 | 2=2, 3!=4"},
		{"1 = 1..3", "q", "", "", "q"},
		{"X = 1..3", "q(X)", "", "", "q(1) | q(2) | q(3)"},
		// The bindings are in the order of their values, those of introduced variables first.
		{"p(X)", "q(3-X)", "p(1..2)", "", "q(1) | q(2)"},
		{"p(X)", "q(X,3-X)", "p(1..2)", "", "q(2,1) | q(1,2)"},
		{"p(Y,X)", "q(X,Y)", "p(2,1) p(1,2) p(1,1)", "", "q(1,1) | q(1,2) | q(2,1)"},
		{"p(X)", "q(X)", "p(f(a)) p(a) p(10) p(9) p(-1)", "", "q(-1) | q(9) | q(10) | q(a) | q(f(a))"},
		// Given variables
		{"p(X,Y)", "q(X,Y,Z)", "p(1..2,1..2)", "X=2 Z=f(a)", "q(2,1,f(a)) | q(2,2,f(a))"},
		{"", "q(X+1,Y), X < Y", "", "X=2 Y=a", "q(3,a), 2<a"},
		{"", "q", "", "A=1 B=2", "q"},
		{"p(X+1), r(X)", "q(X)", "p(2) r(1..9)", "#1=9", "q(1)"},
		{"r(X)", "q(X+1), X+2 < 3-X", "r(1)", "#1=9 #3=8", "q(2), 3<2"},
		{"r(X)", "q(H_1,H_2,X+1)", "r(1)", "#1=9 #2=8", "q(9,8,2)"},
		{"r(H_1)", "q(H_1+1)", "r(1)", "", "q(2)"},
		{"p(_)", "q(_)", "p(1..2)", "", "q(1) | q(2)"},
		{"p(X)", "q(X)", "p(1..2)", "any=1 text=2", "q(1) | q(2)"},
		// Terms without values
		{"p(X)", "q(X/(X-1))", "p(1..2)", "", "q(2)"},
		{"p(X)", "1/X < a+1", "p(1)", "", ""},
		{"p(X), not r(1/X)", "q(X)", "p(0..1)", "", "q(1)"},
		{"p(X)", "q(3..X)", "p(1..2)", "", ""},
		// A conclusion may be too deep, but no comparison of the condition.
		{"p(X)", "q(F11:XG11:)", "p(f(1))", "", "q(" + strings.Repeat("f(", 12) + "1" + strings.Repeat(")", 13)},
		{"p(X), not r(F11:XG11:)", "F11:XG11: = X", "p(f(1))", "", strings.Repeat("f(", 12) + "1" + strings.Repeat(")", 12) + "=f(1)"},
	} {
		checkElements(t, c.cond, c.concl, c.atoms, c.b, c.want)
	}
}

// TestElementsWithoutConclusions counts elements that have no conclusions.
func TestElementsWithoutConclusions(t *testing.T) {
	for cond, want := range map[string]int{"": 1, "p(X)": 3, "p(X), p(Y)": 9, "p(4)": 0, "not p(1)": 0, "not p(4)": 1, "1 < 2": 1, "2 < 1": 0} {
		rows, e := derive.Elements(litsOf(t, cond), nil, storeOf(t, "p(1..3)"), nil)
		if e != api.OK || len(rows) != want || slices.ContainsFunc(rows, func(l []api.Lit) bool { return len(l) > 0 }) {
			t.Errorf("%s: %v and error %d, want %d", cond, rows, e, want)
		}
	}
}

// TestManyIntroducedVariables has so many introduced variables that #10 precedes #2 in the order of names.
func TestManyIntroducedVariables(t *testing.T) {
	checkElements(t, "", "p(0+1..2,2*1,3*1,4*1,5*1,6*1,7*1,8*1), q(9*1,0+1..2,0+1..2)", "", "", strings.Join([]string{
		"p(1,2,3,4,5,6,7,8), q(9,1,1)", "p(1,2,3,4,5,6,7,8), q(9,1,2)", "p(1,2,3,4,5,6,7,8), q(9,2,1)", "p(1,2,3,4,5,6,7,8), q(9,2,2)",
		"p(2,2,3,4,5,6,7,8), q(9,1,1)", "p(2,2,3,4,5,6,7,8), q(9,1,2)", "p(2,2,3,4,5,6,7,8), q(9,2,1)", "p(2,2,3,4,5,6,7,8), q(9,2,2)",
	}, " | "))
	checkElements(t, "", "p(1*1,1..2,3*1,4*1,5*1,6*1,7*1,8*1), q(9*1,1..2)", "", "", "p(1,1,3,4,5,6,7,8), q(9,1) | p(1,2,3,4,5,6,7,8), q(9,1) | p(1,1,3,4,5,6,7,8), q(9,2) | p(1,2,3,4,5,6,7,8), q(9,2)")
}

// TestElementsHaveNoOtherFields checks that ground conclusions have only the fields that their Kind uses.
func TestElementsHaveNoOtherFields(t *testing.T) {
	x := variable("X")
	a := api.Lit{Kind: api.LitAtom, Not: true, Atom: atom("p", x), Op: 3, L: variable("Y"), R: x}
	c := api.Lit{Kind: api.LitComp, Op: api.OpLt, L: x, R: x, Atom: atom("q", variable("Y"))}
	rows, e := derive.Elements(nil, []api.Lit{a, c}, store.New(), bindingOf(t, "X=1"))
	if e != api.OK || len(rows) != 1 || len(rows[0]) != 2 {
		t.Fatal(rows, e)
	}
	if l := rows[0][0]; l.Op != 0 || l.L.Kind != 0 || l.R.Kind != 0 || litText(l) != "not p(1)" {
		t.Errorf("%+v", l)
	}
	if l := rows[0][1]; l.Not || l.Atom.Pred != "" || len(l.Atom.Args) != 0 || litText(l) != "1<1" {
		t.Errorf("%+v", l)
	}
}

// checkElementsError checks an error for literals.
func checkElementsError(t *testing.T, name string, cond, concl []api.Lit, s *store.Store, b api.Binding, want api.Errno) {
	t.Helper()
	if rows, e := derive.Elements(cond, concl, s, b); e != want || e != api.OK && len(rows) > 0 {
		t.Errorf("%s: %d rows and error %d, want %d", short(name), len(rows), e, want)
	}
}

func TestElementsErrors(t *testing.T) {
	s := storeOf(t, "p(1..3) deep(F11:1G11:) n(1..200)")
	for _, c := range []struct {
		cond, concl, b string
		want           api.Errno
	}{
		{"p(X)", "q(Y)", "", join.ErrUnsafe}, {"", "q(X)", "", join.ErrUnsafe}, {"", "not q(X+1)", "", join.ErrUnsafe}, {"", "X < 1", "", join.ErrUnsafe}, {"", "X = 1", "", join.ErrUnsafe}, {"not p(X)", "q", "", join.ErrUnsafe}, {"X < 1", "q", "", join.ErrUnsafe}, {"p(X+1)", "q", "", join.ErrUnsafe}, {"p(X+1)", "q(X)", "#1=2", join.ErrUnsafe},
		{"p(X)", "q(Y)", "Y=1", api.OK}, {"", "X = 1", "X=2", api.OK}, {"p(X+1)", "q(X)", "X=1", api.OK},
		{"deep(X), Y = f(X)", "q", "", api.ErrLong}, {"deep(X), f(X) < 1", "q", "", api.ErrLong}, {"deep(X)", "q(1..f(X))", "", api.ErrLong}, {"deep(X)", "q(f(X))", "", api.OK}, {"deep(X)", "1..f(X) = 1", "", api.ErrLong}, {"deep(X)", "f(X) = 1", "", api.OK}, {"p(X), deep(Y), Z = f(Y)", "q(1..1001)", "", api.ErrMany}, {"deep(Y), Z = f(Y), 1 < 1..1001", "q", "", api.ErrMany},
		{"X = 1..1001", "q", "", api.ErrMany}, {"", "q(1..1001)", "", api.ErrMany}, {"", "q(1..1000)", "", api.OK}, {"", "X < 1..1001", "X=1", api.ErrMany}, {"not q(1..1001)", "q", "", api.ErrMany},
		{"n(X), n(Y)", "q", "", api.ErrMany}, {"n(X), X < 102, n(Y)", "q", "", api.ErrMany}, {"n(X), X < 101, n(Y)", "q", "", api.OK}, {"X = 1..100, n(Y)", "q", "", api.OK}, {"X = 1..100, n(Y)", "q(1..2)", "", api.ErrMany}, {"n(X)", "q(1..100), r(X..X+1)", "", api.ErrMany}, {"n(X)", "q(1..50), r(X..X+1)", "", api.OK},
	} {
		checkElementsError(t, c.concl+" : "+c.cond, litsOf(t, c.cond), litsOf(t, c.concl), s, bindingOf(t, c.b), c.want)
	}
}

func TestElementsArguments(t *testing.T) {
	s := storeOf(t, "p(1)")
	good := litsOf(t, "p(X)")
	unsorted, twice := bindingOf(t, "Y=1 X=1"), bindingOf(t, "X=1 X=1")
	notValue := api.Binding{{Name: "X", Val: variable("X")}}
	for _, b := range []api.Binding{unsorted, twice, notValue, {{Name: "X"}}} {
		checkElementsError(t, "a binding", good, good, s, b, api.ErrArg)
		checkElementsError(t, "a binding of unsafe literals", nil, litsOf(t, "q(Z)"), s, b, api.ErrArg)
	}
	// The flat form of such a literal is less deep, and valid.
	span := api.Term{Kind: api.TermRange, Args: ones(2)}
	invalid := append(invalidLits(), positive("p", tower(11, span)))
	for _, l := range invalid {
		both := []api.Lit{good[0], l}
		checkElementsError(t, "a condition", both, good, s, nil, api.ErrArg)
		checkElementsError(t, "a conclusion", good, both, s, nil, api.ErrArg)
		checkElementsError(t, "a conclusion that is not bound", nil, both, s, nil, api.ErrArg)
		for _, o := range notStores() {
			checkElementsError(t, "not a store", both, good, o, nil, api.ErrNil)
			checkElementsError(t, "not a store", good, both, o, unsorted, api.ErrNil)
		}
	}
	for _, o := range notStores() {
		checkElementsError(t, "not a store", good, good, o, nil, api.ErrNil)
		checkElementsError(t, "not a store", nil, nil, o, nil, api.ErrNil)
		checkElementsError(t, "not a store", nil, litsOf(t, "q(X)"), o, unsorted, api.ErrNil)
	}
	checkElementsError(t, "valid depth", good, []api.Lit{positive("p", tower(10, span))}, s, nil, api.OK)
}
