package lex

import (
	"regexp"
	"slices"
	"strconv"
	"strings"
	"testing"

	"ostler/api"
)

// show returns kind, text and offset of each token, or the error and its offset.
func show(src string) string {
	l, at, e := Lex(src)
	if e != api.OK {
		return strings.Repeat("tokens ", len(l)) + "error " + strconv.Itoa(int(e)) + " at " + strconv.Itoa(at)
	}
	var texts []string
	for _, t := range l {
		texts = append(texts, strconv.Itoa(int(t.Kind))+":"+t.Text+":"+strconv.Itoa(t.At))
	}
	return strings.Repeat("offset ", at) + strings.Join(texts, " ")
}

func check(t *testing.T, cases map[string]string) {
	t.Helper()
	for src, want := range cases {
		if got := show(src); got != want {
			t.Errorf("%q: %s, want %s", src, got, want)
		}
	}
}

// P3.1: tokens

func TestWords(t *testing.T) {
	longest := strings.Repeat("a", api.MaxName)
	check(t, map[string]string{
		"a":                           "1:a:0",
		"aB_9":                        "1:aB_9:0",
		"_a":                          "1:_a:0",
		"__a1_":                       "1:__a1_:0",
		"X":                           "2:X:0",
		"_X":                          "2:_X:0",
		"Xy_9":                        "2:Xy_9:0",
		"_":                           "2:_:0",
		"_12":                         "2:_12:0",
		"not":                         "4:not:0",
		"no":                          "1:no:0",
		"nota":                        "1:nota:0",
		"not1":                        "1:not1:0",
		"_not":                        "1:_not:0",
		"Not":                         "2:Not:0",
		"nOT":                         "1:nOT:0",
		"not not a":                   "4:not:0 4:not:4 1:a:8",
		"const":                       "1:const:0",
		longest:                       "1:" + longest + ":0",
		strings.ToUpper(longest):      "2:" + strings.ToUpper(longest) + ":0",
		longest + "-" + longest:       "1:" + longest + ":0 6:-:32 1:" + longest + ":33",
		"_" + strings.Repeat("1", 31): "2:_" + strings.Repeat("1", 31) + ":0",
	})
}

func TestNumbers(t *testing.T) {
	check(t, map[string]string{
		"0":          "3:0:0",
		"7":          "3:7:0",
		"10":         "3:10:0",
		"2147483647": "3:2147483647:0",
		"0 0":        "3:0:0 3:0:2",
		"-0":         "6:-:0 3:0:1",
		"-5":         "6:-:0 3:5:1",
		"1a":         "3:1:0 1:a:1",
		"1_":         "3:1:0 2:_:1",
		"0x1":        "3:0:0 1:x1:1",
		"1.5":        "3:1:0 6:.:1 3:5:2",
		"1e9":        "3:1:0 1:e9:1",
		"1#sum":      "3:1:0 5:#sum:1",
	})
}

func TestDirectives(t *testing.T) {
	check(t, map[string]string{
		"#const":     "5:#const:0",
		"#show":      "5:#show:0",
		"#minimize":  "5:#minimize:0",
		"#count":     "5:#count:0",
		"#sum":       "5:#sum:0",
		"#sum#count": "5:#sum:0 5:#count:4",
		"#sum{":      "5:#sum:0 6:{:4",
		"#const1":    "5:#const:0 3:1:6",
		"#show_a":    "5:#show:0 1:_a:5",
		"#show%a":    "5:#show:0",
	})
}

func TestSigns(t *testing.T) {
	signs := strings.Fields(`:- :~ : .. . , ; | ( ) { } [ ] = != <= >= < > + - * / \ @`)
	for _, s := range signs {
		check(t, map[string]string{
			s:                     "6:" + s + ":0",
			"a" + s + "1":         "1:a:0 6:" + s + ":1 3:1:" + strconv.Itoa(1+len(s)),
			"_" + s + " not%" + s: "2:_:0 6:" + s + ":1 4:not:" + strconv.Itoa(2+len(s)),
		})
	}
	check(t, map[string]string{
		"...":   "6:..:0 6:.:2",
		"....":  "6:..:0 6:..:2",
		":--":   "6::-:0 6:-:2",
		":~:":   "6::~:0 6:::2",
		"::-":   "6:::0 6::-:1",
		"<==":   "6:<=:0 6:=:2",
		"=<":    "6:=:0 6:<:1",
		"==":    "6:=:0 6:=:1",
		"<>":    "6:<:0 6:>:1",
		"a!=b":  "1:a:0 6:!=:1 1:b:3",
		"1..n":  "3:1:0 6:..:1 1:n:3",
		". .":   "6:.:0 6:.:2",
		": -":   "6:::0 6:-:2",
		"<%\n=": "6:<:0 6:=:3",
	})
}

func TestBlanksAndComments(t *testing.T) {
	check(t, map[string]string{
		"":                     "",
		" \t\n\r ":             "",
		"%":                    "",
		"% a":                  "",
		"%\n":                  "",
		"%%\n%\n\n% %":         "",
		"a b":                  "1:a:0 1:b:2",
		"a\tb\nc\rd  e":        "1:a:0 1:b:2 1:c:4 1:d:6 1:e:9",
		"a%b\nc":               "1:a:0 1:c:4",
		"a%b\rc":               "1:a:0",
		"a% ? # 00 \xff\x00\n": "1:a:0",
		"%a\nb%c":              "1:b:3",
		"1%\n2":                "3:1:0 3:2:3",
	})
}

// P3.1: errors

func TestInvalidBytes(t *testing.T) {
	check(t, map[string]string{
		"!":       "error 30 at 0",
		"a !":     "error 30 at 2",
		"a ! =":   "error 30 at 2",
		"!!=":     "error 30 at 0",
		"~":       "error 30 at 0",
		"\"a\"":   "error 30 at 0",
		"a&b":     "error 30 at 1",
		"p('a')":  "error 30 at 2",
		"a\vb":    "error 30 at 1",
		"a\fb":    "error 30 at 1",
		"a\x00":   "error 30 at 1",
		"é":       "error 30 at 0",
		"aé":      "error 30 at 1",
		"\u00a0a": "error 30 at 0",
		"#sumé":   "error 30 at 4",
		"1\xff":   "error 30 at 1",
		"%\n ?":   "error 30 at 3",
		"a?%":     "error 30 at 1",
	})
}

func TestInvalidWords(t *testing.T) {
	check(t, map[string]string{
		"__":                                 "error 31 at 0",
		"__1":                                "error 31 at 0",
		"_1a":                                "error 31 at 0",
		"_1X":                                "error 31 at 0",
		"_1_":                                "error 31 at 0",
		"p(_, __)":                           "error 31 at 5",
		strings.Repeat("a", 33):              "error 31 at 0",
		strings.Repeat("X", 33):              "error 31 at 0",
		"a " + strings.Repeat("_", 32) + "a": "error 31 at 2",
		"_" + strings.Repeat("1", 32):        "error 31 at 0",
		strings.Repeat("a", api.MaxSource):   "error 31 at 0",
		"#":                                  "error 31 at 0",
		"a # sum":                            "error 31 at 2",
		"##sum":                              "error 31 at 0",
		"#1":                                 "error 31 at 0",
		"#_":                                 "error 31 at 0",
		"#su":                                "error 31 at 0",
		"#sums":                              "error 31 at 0",
		"#Sum":                               "error 31 at 0",
		"#SUM":                               "error 31 at 0",
		"#const#a":                           "error 31 at 6",
		"a #cost":                            "error 31 at 2",
		"#maximize":                          "error 31 at 0",
		"#%\n":                               "error 31 at 0",
	})
}

func TestInvalidNumbers(t *testing.T) {
	check(t, map[string]string{
		"00":                           "error 32 at 0",
		"01":                           "error 32 at 0",
		"x = 007":                      "error 32 at 4",
		"0000000001":                   "error 32 at 0",
		"2147483648":                   "error 32 at 0",
		"-2147483648":                  "error 32 at 1",
		"4294967296":                   "error 32 at 0",
		"4294967297":                   "error 32 at 0",
		"9223372036854775807":          "error 32 at 0",
		"9223372036854775808":          "error 32 at 0",
		"18446744073709551617":         "error 32 at 0",
		"1" + strings.Repeat("0", 400): "error 32 at 0",
		strings.Repeat("0", 400):       "error 32 at 0",
		"1..01":                        "error 32 at 3",
		"0a 00a":                       "error 32 at 3",
	})
}

func TestFirstError(t *testing.T) {
	check(t, map[string]string{
		"? __ 00":   "error 30 at 0",
		"a __ 00 ?": "error 31 at 2",
		"a 00 # ?":  "error 32 at 2",
		"%?\n00":    "error 32 at 3",
		"1 2 ##":    "error 31 at 4",
	})
}

func TestLongSource(t *testing.T) {
	full := strings.Repeat("ab, ", api.MaxSource/4)
	if l, at, e := Lex(full); len(l) != api.MaxSource/2 || at != 0 || e != api.OK {
		t.Error(len(l), at, e)
	}
	if l, at, e := Lex(full[1:] + "?"); len(l) != 0 || at != api.MaxSource-1 || e != ErrByte {
		t.Error(len(l), at, e)
	}
	for _, src := range []string{full + " ", full + "?", "?" + full, strings.Repeat(" ", api.MaxSource+1), strings.Repeat("0", 1<<20)} {
		if l, at, e := Lex(src); len(l) != 0 || at != 0 || e != api.ErrLong {
			t.Errorf("%d bytes: %d tokens, %d, error %d", len(src), len(l), at, e)
		}
	}
}

// P3.1: comparison with the definition

type shape struct {
	pattern *regexp.Regexp
	kind    Kind
	e       api.Errno
}

// forms are the forms of tokens, read from the document, and what separates them.
type forms struct {
	between, token *regexp.Regexp
	shapes         []shape
}

func newForms() forms {
	f := forms{
		between: regexp.MustCompile(`^([ \t\n\r]|%[^\n]*)+`),
		token:   regexp.MustCompile(`^([A-Za-z_][A-Za-z_0-9]*|[0-9]+|#[A-Za-z]*|:-|:~|:|\.\.|\.|,|;|\||\(|\)|\{|\}|\[|\]|=|!=|<=|>=|<|>|\+|-|\*|/|\\|@)`),
		shapes:  shapes(),
	}
	f.token.Longest()
	return f
}

// shapes returns the forms of the text of a token, of which the first one that matches counts.
func shapes() []shape {
	of := func(pattern string, kind Kind, e api.Errno) shape {
		return shape{regexp.MustCompile("^(" + pattern + ")$"), kind, e}
	}
	return []shape{
		of("not", Keyword, api.OK),
		of("[A-Za-z_][A-Za-z_0-9]{32,}", 0, ErrWord),
		of("_*[a-z][A-Za-z_0-9]*", Symbol, api.OK),
		of("_*[A-Z][A-Za-z_0-9]*|_[0-9]*", Variable, api.OK),
		of("[A-Za-z_][A-Za-z_0-9]*", 0, ErrWord),
		of("0|[1-9][0-9]{0,8}|1[0-9]{9}|20[0-9]{8}|2147483647", Number, api.OK),
		of("[0-9]+", 0, ErrNumber),
		of("#const|#show|#minimize|#count|#sum", Directive, api.OK),
		of("#[A-Za-z]*", 0, ErrWord),
		of(".*", Sign, api.OK),
	}
}

// lex is Lex by the definition.
func (f forms) lex(src string) ([]Token, int, api.Errno) {
	var l []Token
	for at := 0; at < len(src); {
		if skipped := f.between.FindString(src[at:]); skipped != "" {
			at += len(skipped)
			continue
		}
		text := f.token.FindString(src[at:])
		if text == "" {
			return nil, at, ErrByte
		}
		i := slices.IndexFunc(f.shapes, func(s shape) bool { return s.pattern.MatchString(text) })
		if f.shapes[i].e != api.OK {
			return nil, at, f.shapes[i].e
		}
		l = append(l, Token{f.shapes[i].kind, text, at})
		at += len(text)
	}
	return l, 0, api.OK
}

func compare(t *testing.T, src string, f forms) {
	t.Helper()
	l, at, e := Lex(src)
	want, wantAt, wantE := f.lex(src)
	if !slices.Equal(l, want) || at != wantAt || e != wantE {
		t.Fatalf("%q: %v, %d, error %d, want %v, %d, error %d", src, l, at, e, want, wantAt, wantE)
	}
}

// TestAllPairs lexes every source of one and two bytes, alone and behind a token.
func TestAllPairs(t *testing.T) {
	f := newForms()
	for a := range 256 {
		compare(t, string([]byte{byte(a)}), f)
		for b := range 256 {
			pair := string([]byte{byte(a), byte(b)})
			compare(t, pair, f)
			compare(t, "0 "+pair, f)
		}
	}
}

// sources yields many sources, most of which consist of valid tokens.
func sources(yield func(string) bool) {
	pieces := []string{"a", "not", "X", "_", "_1", "_b", "0", "12", "2147483647", "#sum", "#count", "#show", "#const", "#minimize", ":-", ":~", ":", "..", ".", ",", ";", "|", "(", ")", "{", "}", "[", "]", "=", "!=", "<=", ">=", "<", ">", "+", "-", "*", "/", "\\", "@", " ", "\n", "\t", "\r", "% c\n", "%", "2147483648", "!", "#"}
	seed := uint32(1)
	next := func(n int) int {
		seed = seed*1664525 + 1013904223
		return int(seed>>8) % n
	}
	for range 20000 {
		var src strings.Builder
		for range next(20) {
			src.WriteString(pieces[next(len(pieces))])
			if next(2) == 0 {
				src.WriteString(" ")
			}
		}
		if !yield(src.String()) {
			return
		}
	}
}

func TestByForms(t *testing.T) {
	f := newForms()
	for src := range sources {
		compare(t, src, f)
	}
}

// P3.2

func TestJoin(t *testing.T) {
	for i, c := range []struct {
		l    []Token
		want string
	}{
		{nil, ""},
		{[]Token{{}}, ""},
		{[]Token{{}, {}}, " "},
		{[]Token{{Symbol, "a", 0}}, "a"},
		{[]Token{{Symbol, "a", 7}, {Sign, ":-", 3}, {Variable, "X", 0}}, "a :- X"},
		{[]Token{{99, "x  y", -1}, {0, "", 0}, {Sign, "%\n\xff", 0}}, "x  y  %\n\xff"},
	} {
		if got := Join(c.l...); got != c.want {
			t.Errorf("%d: %q, want %q", i, got, c.want)
		}
	}
}

// P3.3

func sameTokens(a, b []Token) bool {
	return slices.EqualFunc(a, b, func(x, y Token) bool { return x.Kind == y.Kind && x.Text == y.Text })
}

func TestLexOfJoin(t *testing.T) {
	valid := 0
	for src := range sources {
		l, _, e := Lex(src)
		if e != api.OK {
			continue
		}
		valid++
		again, _, e := Lex(Join(l...))
		if e != api.OK || !sameTokens(again, l) {
			t.Fatalf("%q: %v, error %d, want %v", src, again, e, l)
		}
	}
	if valid < 1000 {
		t.Error("only", valid, "valid sources")
	}
}

func TestBlanksChangeOnlyOffsets(t *testing.T) {
	gaps := []string{" ", "\t\n", "%\n", " % not :- ? 00\n\r", "% c\n%d\n"}
	for src := range sources {
		l, _, e := Lex(src)
		if e != api.OK {
			continue
		}
		for i, gap := range gaps {
			wide := gap
			for k, x := range l {
				wide += x.Text + gaps[(i+k)%len(gaps)]
			}
			if again, _, e := Lex(wide); e != api.OK || !sameTokens(again, l) {
				t.Fatalf("%q and %q: %v, error %d, want %v", src, wide, again, e, l)
			}
		}
	}
}

// TestExample is the example of the chapter.
func TestExample(t *testing.T) {
	l, _, _ := Lex("p(X) :- q(1..n), not r. % c")
	var offsets []string
	for _, x := range l {
		offsets = append(offsets, strconv.Itoa(x.At))
	}
	if got := Join(l...); got != "p ( X ) :- q ( 1 .. n ) , not r ." {
		t.Error(got)
	}
	if got := strings.Join(offsets, " "); got != "0 1 2 3 5 8 9 10 11 13 14 15 17 21 22" {
		t.Error(got)
	}
	check(t, map[string]string{"a #cost": "error 31 at 2", "x = 007": "error 32 at 4", "a ! b": "error 30 at 2"})
}

// R3

func TestNoSharedMemory(t *testing.T) {
	const src = "a(X) :- not #sum 12."
	first, _, _ := Lex(src)
	want := show(src)
	for i := range first[:cap(first)] {
		first[:cap(first)][i] = Token{Sign, "spoilt", -1}
	}
	if got := show(src); got != want {
		t.Error("results share memory:", got)
	}
	l := []Token{{Symbol, "a", 0}, {Symbol, "b", 1}, {Symbol, "c", 2}}
	Join(l[:2]...)
	if !slices.Equal(l, []Token{{Symbol, "a", 0}, {Symbol, "b", 1}, {Symbol, "c", 2}}) {
		t.Error("Join changed its arguments:", l)
	}
}
