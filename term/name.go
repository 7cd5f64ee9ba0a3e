package term

import (
	"strings"

	"ostler/api"
)

// Symbol reports whether a string is a symbol name.
func Symbol(s string) bool {
	return len(s) <= api.MaxName && s != "not" && named(s, lower)
}

// Variable reports whether a string is a variable name.
func Variable(s string) bool {
	return len(s) <= api.MaxName && (named(s, upper) || anonymous(s))
}

// named reports whether s consists of underscores, a byte that starts a name, and word bytes.
func named(s string, starts func(byte) bool) bool {
	rest := strings.TrimLeft(s, "_")
	return rest != "" && starts(rest[0]) && all(rest, word)
}

// anonymous reports whether s is an underscore, followed by nothing but digits.
func anonymous(s string) bool {
	digits, found := strings.CutPrefix(s, "_")
	return found && all(digits, digit)
}

func all(s string, in func(byte) bool) bool {
	for i := range len(s) {
		if !in(s[i]) {
			return false
		}
	}
	return true
}

func lower(c byte) bool { return 'a' <= c && c <= 'z' }

func upper(c byte) bool { return 'A' <= c && c <= 'Z' }

func digit(c byte) bool { return '0' <= c && c <= '9' }

func word(c byte) bool { return lower(c) || upper(c) || digit(c) || c == '_' }
