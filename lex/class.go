package lex

// class is a set of classes of bytes.
type class uint8

const (
	blank class = 1 << iota
	letter
	digit
	underscore
	percent
	hash
)

// classOf returns the class of a byte, or none if it is part of signs only, or of no token.
func classOf(c byte) class {
	switch {
	case c == ' ' || c == '\t' || c == '\n' || c == '\r':
		return blank
	case 'a' <= c && c <= 'z' || 'A' <= c && c <= 'Z':
		return letter
	case '0' <= c && c <= '9':
		return digit
	case c == '_':
		return underscore
	case c == '%':
		return percent
	case c == '#':
		return hash
	}
	return 0
}

// in returns the test whether a byte is in one of some classes.
func in(classes class) func(byte) bool {
	return func(c byte) bool { return classOf(c)&classes != 0 }
}
