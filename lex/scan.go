package lex

import (
	"iter"
	"strconv"
	"strings"

	"ostler/api"
	"ostler/term"
)

// input is a source and the offset up to which it has been read.
type input struct {
	src string
	at  int
}

func (n *input) rest() string { return n.src[n.at:] }

// begins reports whether a byte is left and passes a test.
func (n *input) begins(test func(byte) bool) bool {
	return n.at < len(n.src) && test(n.src[n.at])
}

// take reads some bytes.
func (n *input) take(size int) string {
	start := n.at
	n.at += size
	return n.src[start:n.at]
}

// run reads bytes as long as they pass a test.
func (n *input) run(test func(byte) bool) string {
	start := n.at
	for n.begins(test) {
		n.at++
	}
	return n.src[start:n.at]
}

// scanner reads tokens from its input.
type scanner struct {
	input
}

// tokens yields the tokens that are left, up to the first that is invalid, together with its error.
func (s *scanner) tokens() iter.Seq2[Token, api.Errno] {
	return func(yield func(Token, api.Errno) bool) {
		for s.skip(); s.rest() != ""; s.skip() {
			t, e := s.token()
			if !yield(t, e) || e != api.OK {
				return
			}
		}
	}
}

// skip reads blanks and comments.
func (s *scanner) skip() {
	for s.begins(in(blank | percent)) {
		s.run(in(blank))
		if s.begins(in(percent)) {
			s.run(func(c byte) bool { return c != '\n' })
		}
	}
}

// token reads one token.
func (s *scanner) token() (t Token, e api.Errno) {
	t.At = s.at
	switch {
	case s.begins(in(letter | underscore)):
		t.Text = s.run(in(letter | underscore | digit))
		t.Kind, e = word(t.Text)
	case s.begins(in(digit)):
		t.Text = s.run(in(digit))
		t.Kind, e = number(t.Text)
	case s.begins(in(hash)):
		t.Text = s.take(1) + s.run(in(letter))
		t.Kind, e = directive(t.Text)
	default:
		t.Text = s.take(signLength(s.rest()))
		t.Kind, e = sign(t.Text)
	}
	return t, e
}

func word(text string) (Kind, api.Errno) {
	switch {
	case text == "not":
		return Keyword, api.OK
	case term.Symbol(text):
		return Symbol, api.OK
	case term.Variable(text):
		return Variable, api.OK
	}
	return 0, ErrWord
}

func number(text string) (Kind, api.Errno) {
	n, err := strconv.ParseInt(text, 10, 64)
	if err != nil || n > api.MaxInt || text[0] == '0' && len(text) > 1 {
		return 0, ErrNumber
	}
	return Number, api.OK
}

func directive(text string) (Kind, api.Errno) {
	switch text {
	case "#const", "#show", "#minimize", "#count", "#sum":
		return Directive, api.OK
	}
	return 0, ErrWord
}

// sign returns the error of an empty text, with which signLength reports that there is no sign.
func sign(text string) (Kind, api.Errno) {
	if text == "" {
		return 0, ErrByte
	}
	return Sign, api.OK
}

// signLength returns the length of the longest sign with which a text begins, or 0 if there is none.
func signLength(text string) int {
	switch text[:min(2, len(text))] {
	case ":-", ":~", "..", "!=", "<=", ">=":
		return 2
	}
	if strings.IndexByte(`:.,;|(){}[]=<>+-*/\@`, text[0]) >= 0 {
		return 1
	}
	return 0
}
