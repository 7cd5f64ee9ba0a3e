package term

import (
	"cmp"
	"slices"

	"ostler/api"
)

// Compare compares two terms.
func Compare(a, b api.Term) int {
	if c := cmp.Compare(rank(a.Kind), rank(b.Kind)); c != 0 {
		return c
	}
	if a.Kind == api.TermInt && a.Num != b.Num {
		return cmp.Compare(a.Num, b.Num)
	}
	if c := cmp.Or(cmp.Compare(len(a.Args), len(b.Args)), cmp.Compare(a.Name, b.Name)); c != 0 {
		return c
	}
	if c := slices.CompareFunc(a.Args, b.Args, Compare); c != 0 {
		return c
	}
	return cmp.Compare(a.Num, b.Num)
}

// rank returns the place of a kind in the order of terms, in which functions precede variables and unknown kinds come last.
func rank(kind uint8) int {
	switch kind {
	case api.TermFun:
		return int(api.TermVar)
	case api.TermVar:
		return int(api.TermFun)
	case api.TermInt, api.TermSym, api.TermOp, api.TermRange:
		return int(kind)
	}
	return int(api.TermRange) + 1 + int(kind)
}

// Equal reports whether two terms are equal.
func Equal(a, b api.Term) bool { return Compare(a, b) == 0 }
