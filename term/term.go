// Package term is layer 1: see shared/doc/01-term.md.
package term

import (
	"iter"
	"maps"
	"slices"

	"ostler/api"
)

// node is a subterm together with its nesting level; the whole term has level 1.
type node struct {
	api.Term
	level int
}

// subterms yields t and all terms in it, each before its arguments.
func subterms(t api.Term) iter.Seq[node] {
	return func(yield func(node) bool) {
		node{t, 1}.walk(yield)
	}
}

// walk recurses directly, since nested range loops would pass each subterm on through all of its ancestors.
func (n node) walk(yield func(node) bool) bool {
	if !yield(n) {
		return false
	}
	for _, a := range n.Args {
		if !(node{a, n.level + 1}).walk(yield) {
			return false
		}
	}
	return true
}

// Depth returns the nesting depth of a term.
func Depth(t api.Term) int {
	depth := 0
	for n := range subterms(t) {
		depth = max(depth, n.level)
	}
	return depth
}

// Valid reports whether a term is valid.
func Valid(t api.Term) bool {
	need := requirements()
	for n := range subterms(t) {
		meets, known := need[n.Kind]
		if n.level > api.MaxDepth || !known || !meets(n) {
			return false
		}
	}
	return true
}

// requirements returns, for each kind of terms, the test of a term's own fields.
func requirements() map[uint8]func(node) bool {
	return map[uint8]func(node) bool{
		api.TermInt: func(n node) bool {
			return -api.MaxInt <= n.Num && n.Num <= api.MaxInt && n.Name == "" && len(n.Args) == 0
		},
		api.TermSym: func(n node) bool {
			return n.Num == 0 && len(n.Args) == 0 && Symbol(n.Name)
		},
		api.TermVar: func(n node) bool {
			return n.Num == 0 && len(n.Args) == 0 && Variable(n.Name)
		},
		api.TermFun: func(n node) bool {
			return n.Num == 0 && 1 <= len(n.Args) && len(n.Args) <= api.MaxArgs && Symbol(n.Name)
		},
		api.TermOp: func(n node) bool {
			return n.Num == 0 && operator(n.Name, len(n.Args))
		},
		api.TermRange: func(n node) bool {
			return n.Num == 0 && n.Name == "" && len(n.Args) == 2
		},
	}
}

func operator(name string, operands int) bool {
	switch name {
	case "-":
		return operands == 1 || operands == 2
	case "+", "*", "/", "\\":
		return operands == 2
	}
	return false
}

// Value reports whether a term is a value.
func Value(t api.Term) bool {
	if !Valid(t) {
		return false
	}
	for n := range subterms(t) {
		if n.Kind != api.TermInt && n.Kind != api.TermSym && n.Kind != api.TermFun {
			return false
		}
	}
	return true
}

// Ground reports whether a term contains no variables.
func Ground(t api.Term) bool {
	for n := range subterms(t) {
		if n.Kind == api.TermVar {
			return false
		}
	}
	return true
}

// Vars returns the variables of a term.
func Vars(t api.Term) []string {
	names := map[string]bool{}
	for n := range subterms(t) {
		if n.Kind == api.TermVar {
			names[n.Name] = true
		}
	}
	return slices.Sorted(maps.Keys(names))
}
