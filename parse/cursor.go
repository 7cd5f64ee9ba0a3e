package parse

import (
	"slices"

	"ostler/api"
	"ostler/lex"
)

// failure is an error and its offset.
type failure struct {
	at int
	e  api.Errno
}

// cursor holds the tokens that have not been read, and the offset of the end of the source.
type cursor struct {
	left []lex.Token
	end  int
}

func (c *cursor) more() bool { return len(c.left) > 0 }

// peek returns the next token. The one at the end of the source has no kind and no text.
func (c *cursor) peek() lex.Token {
	if !c.more() {
		return lex.Token{At: c.end}
	}
	return c.left[0]
}

// failure returns an error at the next token.
func (c *cursor) failure(e api.Errno) failure { return failure{c.peek().At, e} }

// is reports whether the next token is one of some texts. Tokens of different kinds never have the same text.
func (c *cursor) is(texts ...string) bool {
	return c.more() && slices.Contains(texts, c.peek().Text)
}

// accept reads the next token if it is one of some texts.
func (c *cursor) accept(texts ...string) bool {
	if !c.is(texts...) {
		return false
	}
	c.left = c.left[1:]
	return true
}

// expect reads the next token, which must be one of some texts.
func (c *cursor) expect(texts ...string) string {
	text := c.peek().Text
	if !c.accept(texts...) {
		panic(c.failure(ErrSyntax))
	}
	return text
}

// take reads the next token, which must be of some kind.
func (c *cursor) take(kind lex.Kind) string {
	t := c.peek()
	if t.Kind != kind {
		panic(c.failure(ErrSyntax))
	}
	c.left = c.left[1:]
	return t.Text
}
