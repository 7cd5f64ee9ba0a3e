package parse_test

import (
	"strings"
	"testing"

	"ostler/api"
	"ostler/parse"
)

// nested is a function term of some depth.
func nested(depth int) string {
	return strings.Repeat("f(", depth-1) + "X" + strings.Repeat(")", depth-1)
}

// P4.1: ErrMany for depth

// TestDepthOfTerms puts terms at the place of T, which may have depth 12, but not more.
func TestDepthOfTerms(t *testing.T) {
	for _, marked := range []string{
		":- ^T = 1 .", ":- X = ^T .", ":- X != ^T , a .", ":- a ; ^T < T .", ":- a : ^T <= 1 .", ":- a : b , X > ^T .", ":- 1 >= ^T : a .",
		":- #count{ ^T } = 1 .", ":- #count{ 1 , ^T , T : a } = 1 .", ":- #sum{ 1 : a ; ^T : a } = 1 .", ":- #sum{ 1 : ^T = 1 } = 1 .", ":- not #sum{ 1 } < ^T .",
		"^T { a } .", "{ a } ^T .", "1 { a } ^T :- b .", "{ a : ^T = 1 } .", "{ a ; b : c , 1 < ^T } .",
		":~ . [ ^T ]", ":~ . [ ^T @ 1 ]", ":~ . [ 1 @ ^T ]", ":~ . [ 1 @ 1 , ^T ]", ":~ . [ 1 , X , ^T , T ]", ":~ a , ^T < 1 . [ 1 ]",
		"#const n = ^T .", "#minimize{ ^T } .", "#minimize{ 1 ; ^T } .", "#minimize{ 1 @ ^T , T } .", "#minimize{ 1 , ^T : a } .", "#minimize{ 1 : a , ^T = T } .",
	} {
		checkDepth(t, marked, map[string]string{
			nested(12): nested(13), nested(11) + "+1": nested(12) + "+1", "1*" + nested(11): "1*" + nested(12), "-" + nested(11): "-" + nested(12), nested(11) + "..2": nested(12) + "..2",
			"(" + nested(12) + ")": "(" + nested(13) + ")", "1-(" + nested(11) + ")": "1-(" + nested(12) + ")", strings.Repeat("-", 11) + "X": strings.Repeat("-", 12) + "X", strings.Repeat("-", 12) + "1": strings.Repeat("-", 13) + "1",
			"1" + strings.Repeat("+1", 11): "1" + strings.Repeat("+1", 12), "f(1" + strings.Repeat("/1", 10) + ")": "f(1,1" + strings.Repeat("/1", 11) + ")", strings.Repeat("(", 50) + "1" + strings.Repeat(")", 50): "f(f(" + nested(11) + "))",
		})
	}
}

// TestDepthOfArguments puts terms at the place of T, which may have depth 12, but not more. The error is at the atom.
func TestDepthOfArguments(t *testing.T) {
	for _, marked := range []string{
		"^p( T ) .", "^p( 1 , T ) :- a .", "^p( T , T ) | b .", "a | ^p( T ) .", "a | b | ^p( 1 , T , 2 ) :- c .",
		"{ ^p( T ) } .", "1 { a ; ^p( T ) : b } .", "{ a : ^p( T ) } .", "{ a : b , not ^p( T ) } .",
		":- ^p( T ) .", ":- not ^p( T ) .", ":- a , ^p( 1 , T ) ; b .", ":- ^p( T ) : a .", ":- not ^p( T ) : a .", ":- a : ^p( T ) ; b .", ":- a : b , not ^p( T ) .", ":- #sum{ 1 : ^p( T ) } = 1 .", ":- #sum{ 1 ; 2 : a , not ^p( T ) } = 1 .",
		":~ ^p( T ) . [ 1 ]", ":~ not ^p( T ) . [ 1 ]", "#minimize{ 1 : ^p( T ) } .", "#minimize{ 1 ; 2 : a , not ^p( T ) } .",
	} {
		checkDepth(t, marked, map[string]string{
			nested(12): nested(13), "1-" + nested(11): "1-" + nested(12), "(" + nested(12) + ")": "(" + nested(13) + ")", "1.." + nested(11): "1.." + nested(12), "-" + nested(11): "--" + nested(11),
		})
	}
}

// checkDepth puts terms that may be at the place of T there, and the ones they belong to, which may not.
func checkDepth(t *testing.T, marked string, terms map[string]string) {
	t.Helper()
	for good, bad := range terms {
		checkOK(t, strings.ReplaceAll(strings.Replace(marked, "^", "", 1), "T", good))
		checkError(t, parseProgram, strings.ReplaceAll(marked, "T", bad), api.ErrMany)
	}
}

// TestAtomOrTerm uses an atom with an argument of the greatest depth, which is not a term for its depth.
func TestAtomOrTerm(t *testing.T) {
	deep := nested(13)
	for _, src := range []string{"T.", "T | T :- a.", "{ T : T }.", ":- T.", ":- T, not T; T : T.", ":- #sum{ 1 : T } = 1.", ":~ T. [1]", "#minimize{ 1 : T }."} {
		checkOK(t, strings.ReplaceAll(src, "T", deep))
	}
	for _, marked := range []string{"^T { a }.", ":- ^T = 1.", ":- ^T != X.", ":- a, ^T < ]", ":- a : ^T <= ]", ":- a : b, ^T > ]", "{ a : ^T >= ]", ":- ^(T) = 1.", ":- ^(T) ]", "^(T) {a}.", "^(T) ]", "^-T ]", ":- ^T+1 ]", ":- ^T..X ]", "^T*2 ]"} {
		checkError(t, parseProgram, strings.ReplaceAll(marked, "T", deep), api.ErrMany)
	}
	for _, marked := range []string{"T ^]", "T^", "T | T ^]", "a | T ^= 1.", "{ T ^]", "{ T ^= 1 }.", ":- T ^]", ":- T ^{ a }.", ":- T^", ":- not T ^= 1.", ":- a, T : T ^]", ":- T+^]", "T*^", "T+1+^.", "-T+^.", ":- (T^", ":- (T ^]", ":- 1 = f(T^", ":- (T)+^]"} {
		checkError(t, parseProgram, strings.ReplaceAll(marked, "T", deep), parse.ErrSyntax)
	}
}

// TestDepthBeforeNextToken puts a term that is too deep, or an atom with such an argument, before a token that is wrong.
func TestDepthBeforeNextToken(t *testing.T) {
	for _, marked := range []string{
		":- 1 < ^T ]", ":- #sum{ ^T ]", ":- #sum{ 1, ^T ]", ":- #sum{1} < ^T ]", "{ a } ^T ]", ":~. [^T )", ":~. [1@^T )", ":~. [1,^T )", "#const n = ^T ]", "#minimize{ ^T ]", "#minimize{ 1@^T ]", ":- 1 < ^T",
		"^p(T) ]", "a | ^p(T) ]", "{ ^p(T) ]", ":- ^p(T) ]", ":- not ^p(T) ]", ":- a : ^p(T) ]", "{ a : b, not ^p(T) ]", ":- #sum{ 1 : ^p(T) ]", "#minimize{ 1 : ^p(T) ]", "^p(T)",
	} {
		checkError(t, parseProgram, strings.ReplaceAll(marked, "T", nested(13)), api.ErrMany)
	}
}

// TestFirstErrorFound checks errors of which the one that counts is found first, but not always at the least offset.
func TestFirstErrorFound(t *testing.T) {
	deep := nested(13)
	checkError(t, parseProgram, ":- ^"+deep+" = ] p(1,2,3,4,5,6,7,8,9).", api.ErrMany)
	checkError(t, parseProgram, ":- X+f(1,2,3,4,5,6,7,8,^"+deep+") = 1.", api.ErrMany)
	checkError(t, parseProgram, ":- X+f("+deep+",2,3,4,5,6,7,8,^9) = 1.", api.ErrMany)
	checkError(t, parseProgram, ":- 1 < X+"+deep+"+^]", parse.ErrSyntax)
	checkError(t, parseProgram, ":- X ^] "+deep+" = 1.", parse.ErrSyntax)
	checkError(t, parseProgram, strings.Repeat("a.", api.MaxRules)+"^b("+deep+") ]", api.ErrMany)
	checkError(t, parseProgram, strings.Repeat("a.", api.MaxRules-1)+":- ^b("+deep+"). ]", api.ErrMany)
	checkError(t, parseProgram, "p(1,2,3,4,5,6,7,8,^). ]", api.ErrMany)
	checkError(t, parseProgram, "a ^] p(1,2,3,4,5,6,7,8,9).", parse.ErrSyntax)
}

// TestDeepSources checks sources that are nested as deeply as their length allows.
func TestDeepSources(t *testing.T) {
	const most = api.MaxSource
	brackets := strings.Repeat("(", most/2-1) + "1" + strings.Repeat(")", most/2-1)
	if got, at, e := parse.Term(brackets); !same(got, num(1)) || at != 0 || e != api.OK {
		t.Error(got.Kind, at, e)
	}
	checkError(t, parseTerm, "^"+strings.Repeat("-", most-1)+"X", api.ErrMany)
	checkError(t, parseTerm, "^1"+strings.Repeat("+1", most/2-1), api.ErrMany)
	checkError(t, parseTerm, "^"+nested(most/3), api.ErrMany)
	checkError(t, parseTerm, strings.Repeat("(", most)+"^", parse.ErrSyntax)
	checkError(t, parseTerm, strings.Repeat("f(", most/2)+"^", parse.ErrSyntax)
	checkError(t, parseTerm, strings.Repeat("-", most)+"^", parse.ErrSyntax)
	checkError(t, parseProgram, "^p("+nested(most/3-1)+").", api.ErrMany)
}
