package term

import (
	"strconv"
	"strings"

	"ostler/api"
)

// String returns the text of a term.
func String(t api.Term) string {
	if !Valid(t) {
		return ""
	}
	var w strings.Builder
	write(&w, t)
	return w.String()
}

func write(w *strings.Builder, t api.Term) {
	switch t.Kind {
	case api.TermInt:
		w.WriteString(strconv.Itoa(t.Num))
	case api.TermFun:
		writeFunction(w, t)
	case api.TermOp:
		writeOperands(w, t, t.Name)
	case api.TermRange:
		writeOperands(w, t, "..")
	default:
		w.WriteString(t.Name)
	}
}

func writeFunction(w *strings.Builder, t api.Term) {
	w.WriteString(t.Name)
	sep := "("
	for _, a := range t.Args {
		w.WriteString(sep)
		write(w, a)
		sep = ","
	}
	w.WriteString(")")
}

// writeOperands writes the sign before the last operand, which is the only one of a unary operation.
func writeOperands(w *strings.Builder, t api.Term, sign string) {
	for i, a := range t.Args {
		if i == len(t.Args)-1 {
			w.WriteString(sign)
		}
		if enclosed(t, i) {
			w.WriteString("(")
			write(w, a)
			w.WriteString(")")
		} else {
			write(w, a)
		}
	}
}

// Strengths of operations and intervals: the greater one binds more tightly.
const (
	strengthRange = iota
	strengthSum
	strengthProduct
	strengthUnary
)

func strength(t api.Term) int {
	switch {
	case t.Kind == api.TermRange:
		return strengthRange
	case len(t.Args) == 1:
		return strengthUnary
	case t.Name == "+" || t.Name == "-":
		return strengthSum
	}
	return strengthProduct
}

// enclosed reports whether the operand with index i of an operation or interval t is enclosed in parentheses.
func enclosed(t api.Term, i int) bool {
	a, outer := t.Args[i], strength(t)
	switch a.Kind {
	case api.TermRange:
		return true
	case api.TermInt:
		return outer == strengthUnary
	case api.TermOp:
		inner := strength(a)
		return inner != strengthUnary && (inner < outer || inner == outer && i == 1)
	}
	return false
}
