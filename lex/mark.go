package lex

import "strings"

// Behind a backslash each of the letters denotes what is escaped, at the same place.
const (
	letters = `"\nt`
	escaped = "\"\\\n\t"
)

const hexadecimal = "0123456789abcdef"

// mark is what the mark at the beginning of a rest denotes, and its length: 0, if there is none.
func mark(rest string) (byte, int) {
	if denotesItself(rest[0]) {
		return rest[0], 1
	}
	if rest[0] != '\\' || len(rest) < 2 {
		return 0, 0
	}
	if i := strings.IndexByte(letters, rest[1]); i >= 0 {
		return escaped[i], 2
	}
	if rest[1] != 'x' || len(rest) < 4 {
		return 0, 0
	}
	high, low := strings.IndexByte(hexadecimal, rest[2]), strings.IndexByte(hexadecimal, rest[3])
	if high < 0 || low < 0 {
		return 0, 0
	}
	return byte(high<<4 | low), 4
}

// markOf is the mark by which a byte is written.
func markOf(c byte) string {
	if denotesItself(c) {
		return string([]byte{c})
	}
	if i := strings.IndexByte(escaped, c); i >= 0 {
		return `\` + letters[i:i+1]
	}
	return `\x` + string([]byte{hexadecimal[c>>4], hexadecimal[c&15]})
}

func denotesItself(c byte) bool { return c >= 0x20 && c != '"' && c != '\\' && c != 0x7f }
