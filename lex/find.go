package lex

import (
	"strings"

	"corollary/api"
)

// finder finds a token of its kind at the beginning of a rest of the text. It returns the token, without its position, and how many bytes it takes there: 0, if there is none.
type finder func(rest string) (Token, int)

// first is the token at the beginning of a rest, as a finder finds it, or its error.
func first(rest string, finders []finder) (Token, int, api.Errno) {
	for _, find := range finders {
		if t, size := find(rest); size > 0 {
			return t, size, excess(t)
		}
	}
	return Token{}, 0, api.ErrForm
}

// excess is the error of a token that is longer than it may be.
func excess(t Token) api.Errno {
	switch t.Kind {
	case Name, Variable, Field:
		if part, own, _ := strings.Cut(t.Text, "."); max(len(part), len(own)) > api.MaxName {
			return api.ErrName
		}
	case Int, Big:
		if len(t.Text) > api.MaxDigits {
			return api.ErrOver
		}
	case Text:
		if len(t.Text) > api.MaxString {
			return api.ErrTooLarge
		}
	}
	return api.OK
}

func wordsOfTheLanguage() map[string]bool {
	return map[string]bool{
		"module": true, "import": true, "pub": true, "type": true, "input": true, "rel": true, "never": true,
		"not": true, "and": true, "or": true, "if": true, "then": true, "else": true, "true": true, "false": true,
		"count": true, "sum": true, "min": true, "max": true,
	}
}

// newFinders are those of all kinds, in the order in which they are tried: a point is a sign only if no field begins with it.
func newFinders() []finder {
	words := wordsOfTheLanguage()
	plainName := func(rest string) string {
		s := leading(rest)
		if s == "" || s[0] < 'a' || s[0] > 'z' || words[s] {
			return ""
		}
		return s
	}
	fieldName := func(rest string) string {
		if !strings.HasPrefix(rest, ".") {
			return ""
		}
		return plainName(rest[1:])
	}
	return []finder{
		func(rest string) (Token, int) {
			s := leading(rest)
			if !words[s] {
				return Token{}, 0
			}
			return Token{Kind: Word, Text: s}, len(s)
		},
		func(rest string) (Token, int) {
			s := plainName(rest)
			if s == "" {
				return Token{}, 0
			}
			if own := fieldName(rest[len(s):]); own != "" {
				s += "." + own
			}
			return Token{Kind: Name, Text: s}, len(s)
		},
		func(rest string) (Token, int) {
			s := fieldName(rest)
			if s == "" {
				return Token{}, 0
			}
			return Token{Kind: Field, Text: s}, len(".") + len(s)
		},
		variable, anything, number, quoted, sign,
	}
}

func variable(rest string) (Token, int) {
	s := leading(rest)
	if s == "" || s[0] < 'A' || s[0] > 'Z' {
		return Token{}, 0
	}
	return Token{Kind: Variable, Text: s}, len(s)
}

func anything(rest string) (Token, int) {
	s := leading(rest)
	if s != "_" {
		return Token{}, 0
	}
	return Token{Kind: Any, Text: s}, len(s)
}

// number finds an Int or a Big. Letters, digits and _ that follow are looked at, too: with others than the b of a Big there is none.
func number(rest string) (Token, int) {
	s := leading(rest)
	digits, long := strings.CutSuffix(s, "b")
	if !areDigits(digits) {
		return Token{}, 0
	}
	if long {
		return Token{Kind: Big, Text: digits}, len(s)
	}
	return Token{Kind: Int, Text: digits}, len(s)
}

func quoted(rest string) (Token, int) {
	if !strings.HasPrefix(rest, `"`) {
		return Token{}, 0
	}
	var b strings.Builder
	for size := 1; size < len(rest); {
		if rest[size] == '"' {
			return Token{Kind: Text, Text: b.String()}, size + 1
		}
		denoted, length := mark(rest[size:])
		if length == 0 {
			break
		}
		b.WriteByte(denoted)
		size += length
	}
	return Token{}, 0
}

func sign(rest string) (Token, int) {
	signs := [...]string{ // those of two bytes before those that they begin with
		":-", "==", "!=", "<=", ">=", "++",
		"(", ")", ",", ".", ":", "=", "|", "<", ">", "+", "-", "*", "/", "%", "'",
	}
	for _, s := range signs {
		if strings.HasPrefix(rest, s) {
			return Token{Kind: Sign, Text: s}, len(s)
		}
	}
	return Token{}, 0
}

// leading are the letters, digits and _ at the beginning of a rest.
func leading(rest string) string {
	for i := range len(rest) {
		if !isPart(rest[i]) {
			return rest[:i]
		}
	}
	return rest
}

// isPart tells whether a byte may be in a name, behind its beginning.
func isPart(c byte) bool {
	return 'a' <= c && c <= 'z' || 'A' <= c && c <= 'Z' || isDigit(c) || c == '_'
}

func isDigit(c byte) bool { return '0' <= c && c <= '9' }

// areDigits tells whether a text is digits, without leading zeros.
func areDigits(s string) bool {
	for i := range len(s) {
		if !isDigit(s[i]) {
			return false
		}
	}
	return s == "0" || s != "" && s[0] != '0'
}
