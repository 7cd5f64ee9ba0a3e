package parse_test

import (
	"strings"
	"testing"

	"ostler/api"
	"ostler/lex"
	"ostler/parse"
)

// P4.1: errors of layer 3

func TestLexErrors(t *testing.T) {
	for _, function := range []func(string) outcome{parseProgram, parseRule, parseTerm} {
		checkError(t, function, "^?", lex.ErrByte)
		checkError(t, function, "a ] ) ^?", lex.ErrByte)
		checkError(t, function, ". p(1,2,3,4,5,6,7,8,9). ^00", lex.ErrNumber)
		checkError(t, function, "a :- 1 2 ^2147483648 ?", lex.ErrNumber)
		checkError(t, function, "] ^__ 00", lex.ErrWord)
		checkError(t, function, "^"+strings.Repeat(" ", api.MaxSource+1), api.ErrLong)
		checkError(t, function, "^"+strings.Repeat("]", api.MaxSource+1), api.ErrLong)
	}
	checkError(t, parseProgram, strings.Repeat("a.", api.MaxRules+1)+"^?", lex.ErrByte)
	checkOK(t, strings.Repeat(" ", api.MaxSource-2)+"a.")
}

// P4.1: ErrMany for items

// list is a list within a source: what is before it, its items and separators, what is after it.
type list struct {
	before, item, separator, after string
}

// of returns the source up to the item with a number.
func (l list) of(items int) string {
	return l.before + strings.Repeat(l.item+l.separator, items-1) + l.item
}

// checkLimit checks lists of up to a limit of items, and what is wrong behind the separator after that.
func checkLimit(t *testing.T, limit int, lists []list) {
	t.Helper()
	for _, l := range lists {
		full := l.of(limit) + l.after
		checkOK(t, full)
		checkOK(t, full+" "+full)
		checkError(t, parseProgram, l.of(limit)+" ^@", parse.ErrSyntax)
		checkError(t, parseProgram, l.of(limit-1)+l.separator+" ^]", parse.ErrSyntax)
		checkError(t, parseProgram, l.of(limit-1)+l.separator+"^", parse.ErrSyntax)
		for _, next := range []string{l.item + l.after, l.item, l.after, ".", ")", "}", ",", ":-", "#show", ""} {
			checkError(t, parseProgram, l.of(limit)+l.separator+"^"+next, api.ErrMany)
			checkError(t, parseProgram, full+l.of(limit)+l.separator+" % c\n^"+next, api.ErrMany)
		}
		checkError(t, parseProgram, l.of(limit)+l.separator+" % c^", api.ErrMany)
	}
}

func TestElementLimits(t *testing.T) {
	checkLimit(t, api.MaxElems, []list{
		{"", "a", "|", "."}, {"", "f(1)", " | ", ":-a."},
		{"{", "a", ";", "}."}, {"1{", "a:b,c", ";", "}1:-a."},
		{":-", "a", ",", "."}, {":-", "1<2", ";", "."}, {"a:-", "not a", ",", "."}, {"{a}:-", "a:b,c", ";", "."}, {":-", "#sum{1}=1", ",", "."}, {":~", "a", ",", ".[1]"},
		{":-#sum{", "1", ";", "}=1."}, {":-#count{", "1,2:a,b", ";", "}=1."},
	})
}

func TestConditionAndTupleLimits(t *testing.T) {
	checkLimit(t, api.MaxElems, []list{
		{"{a:", "a", ",", "}."}, {"{a;b:", "1<2", ",", ";c}."}, {":-a:", "not a", ",", "."}, {":-a,b:", "a", ",", ";c."}, {":~a:", "a", ",", ".[1]"},
		{":-#sum{1:", "a", ",", "}=1."}, {":-#sum{1,2:", "a", ",", ";1}=1."}, {"#minimize{1:", "a", ",", "}."},
		{":-#sum{", "1", ",", "}=1."}, {":-#sum{1;2;", "1", ",", ":a,b}=1."},
		{":~.[1,", "1", ",", "]"}, {":~.[1@2,", "X", ",", "]"}, {"#minimize{1,", "1", ",", "}."}, {"#minimize{2;1@2,", "1", ",", ":a}."},
	})
}

func TestArgumentLimits(t *testing.T) {
	checkLimit(t, api.MaxArgs, []list{
		{"p(", "1", ",", ")."}, {"a|p(", "1", ",", ")|b."}, {"{p(", "1", ",", ")}."}, {"f(", "X+1", ",", "){a}."}, {"{a}f(", "1", ",", ")."}, {"p(f(", "1", ",", "))."},
		{":-p(", "f(1,2)", ",", ")."}, {":-not p(", "1", ",", ")."}, {":-f(", "1..2", ",", ")=1."}, {":-1=f(", "1", ",", ")."}, {":-a:p(", "1", ",", ")."}, {":-#sum{f(", "1", ",", "):a}=1."}, {":-#sum{1}=f(", "1", ",", ")."},
		{":~.[f(", "1", ",", ")]"}, {":~.[1@f(", "1", ",", ")]"}, {":~.[1,(f(", "1", ",", "))]"}, {"#const n=-f(", "1", ",", ")."}, {"#minimize{f(", "1", ",", ")}."},
	})
}

// TestListsWithinLists fills lists that are parts of others: each has a limit of its own.
func TestListsWithinLists(t *testing.T) {
	const elems, args = api.MaxElems, api.MaxArgs
	atoms, terms := list{"", "a", ",", ""}.of(elems), list{"", "1", ",", ""}.of(elems)
	checkOK(t, list{":-#sum{", terms + ":" + atoms, ";", ""}.of(elems)+"}=1.")
	checkOK(t, list{"{", "a:" + atoms, ";", ""}.of(elems)+"}:-"+atoms+".")
	checkOK(t, list{":-", "a:" + atoms, ";", ""}.of(elems)+".")
	checkOK(t, ":~"+atoms+".[1@2,"+terms+"]")
	checkOK(t, list{"#minimize{", "1@2," + terms + ":" + atoms, ";", ""}.of(elems+1)+"}.")
	inner := list{"f(", "1", ",", ""}.of(args) + ")"
	checkOK(t, list{"p(", list{"f(", inner, ",", ""}.of(args) + ")", ",", ""}.of(args)+").")
}

// P4.1: ErrMany for statements

func TestStatementLimits(t *testing.T) {
	rules := strings.Repeat("a.", api.MaxRules)
	consts, shows := strings.Repeat("#const a=1.", api.MaxRules), strings.Repeat("#show a/1.", api.MaxRules)
	checkOK(t, rules+consts+shows)
	checkOK(t, "#show."+shows+consts+rules)
	checkOK(t, strings.Repeat("#show.", api.MaxRules+1)+shows)
	checkOK(t, strings.Repeat(":-a.{a}.:~.[1]#minimize{1}.", api.MaxRules/4))
	checkOK(t, "#minimize{"+strings.Repeat("1;", api.MaxRules-1)+"1}.")
	for _, next := range []string{"b.", "a|b:-c.", ":-a.", ":~.[1]", "{a}.", "1{a}.", "-1{a}.", "(1){a}.", "X{a}.", "a", "a ]", ":- ]", ":~"} {
		checkError(t, parseProgram, rules+"^"+next, api.ErrMany)
		checkError(t, parseProgram, rules[2:]+"#minimize{1}.^"+next, api.ErrMany)
		checkError(t, parseProgram, rules+"#const a=1. #show. #show a/1. % c\n^"+next, api.ErrMany)
	}
	for _, next := range []string{"#const a=1.", "#const", "#const ]"} {
		checkError(t, parseProgram, consts+"a. #show. ^"+next, api.ErrMany)
	}
	for _, next := range []string{"#show a/1.", "#show.", "#show", "#show ]"} {
		checkError(t, parseProgram, shows+"a. #const a=1. ^"+next, api.ErrMany)
	}
}

// TestMinimizeLimits checks that each element of #minimize counts as a rule, but not the directive itself.
func TestMinimizeLimits(t *testing.T) {
	rules := strings.Repeat("a.", api.MaxRules)
	for _, next := range []string{"1}.", "1;2}.", "X@", "}.", "]"} {
		checkError(t, parseProgram, rules+"#minimize { ^"+next, api.ErrMany)
		checkError(t, parseProgram, rules[2:]+"#minimize{1:a,b;^"+next, api.ErrMany)
		checkError(t, parseProgram, rules[4:]+"#minimize{1@2}.#minimize{3;^"+next, api.ErrMany)
	}
	checkError(t, parseProgram, "#minimize{"+strings.Repeat("1;", api.MaxRules)+"^1}.", api.ErrMany)
	checkError(t, parseProgram, rules+"#minimize ^]", parse.ErrSyntax)
	checkError(t, parseProgram, rules[2:]+"#minimize{1}^]", parse.ErrSyntax)
}
