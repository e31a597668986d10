package lex_test

import (
	"slices"
	"strings"
	"testing"

	"corollary/api"
	"corollary/lex"
)

// TestP5_3RoundTrip writes tokens of all kinds, and reads them.
func TestP5_3RoundTrip(t *testing.T) {
	g := newGenerator(6)
	for range 5000 {
		l := g.tokens(20)
		checkTokens(t, lex.Show(l), l...)
	}
}

// TestP5_3RoundTripOfPairs has each two of many tokens beside each other.
func TestP5_3RoundTripOfPairs(t *testing.T) {
	l := []lex.Token{name("a"), name("b"), name("a.b"), name("nota"), name("b1"), variable("X"), variable("B"), anything(), num("0"), num("12"), long("0"), long("12"), text(""), text("a"), text(" \""), text("\n#\\\x00\x7f\xff"), field("a"), field("b")}
	for _, s := range words() {
		l = append(l, word(s))
	}
	for _, s := range signs() {
		l = append(l, sign(s))
	}
	for _, a := range l {
		for _, b := range l {
			checkTokens(t, lex.Show([]lex.Token{a, b}), a, b)
			checkTokens(t, lex.Show([]lex.Token{a, b, a}), a, b, a)
		}
	}
}

// TestP5_3RoundTripOfAnyTexts reads texts of all sorts, and, where that succeeds, what is shown of them.
func TestP5_3RoundTripOfAnyTexts(t *testing.T) {
	g := newGenerator(7)
	read := 0
	for range 50000 {
		s := g.text(8, pieces()...)
		if l, _, e := lex.Tokens(s); e == api.OK {
			read++
			checkPositions(t, s, l)
			checkTokens(t, lex.Show(l), withoutPositions(l)...)
		}
	}
	if read < 10000 {
		t.Errorf("only %d texts had tokens", read)
	}
}

func TestP5_3RoundTripAtTheLimits(t *testing.T) {
	part := "n" + strings.Repeat("9", 31)
	for _, x := range []lex.Token{name(part), name(part + "." + part), variable("V" + part[1:]), field(part), num(strings.Repeat("9", 200)), long(strings.Repeat("9", 200)), text(strings.Repeat("a", 4096)), text(strings.Repeat("\x00", 4096)), text(strings.Repeat("\"", 4096))} {
		checkTokens(t, lex.Show([]lex.Token{x, x}), x, x)
	}
	l := repeated(api.MaxText/2, sign("("))
	checkTokens(t, lex.Show(l), l...)
}

// pieces are parts of tokens, tokens, and what is none.
func pieces() []string {
	return []string{
		"a", "b", "not", "if", "or", "n", "x", "X", "Y1", "_", "0", "1", "12", "b", "12b", ".", ".", "a.b", "(", ")", ",", ":", "-", "=", "<", ">", "+", "!", "!=", "|", "*", "/", "%", "'",
		`"`, `"`, `"a"`, `\`, `\n`, `\"`, `\x`, "41", "ff", "\x7f", "\x80", "\u00e4", "#", "# a", "\n", "\n", " ", " ", "\t", "\r", "$", "\x00", strings.Repeat("n", 32), strings.Repeat("9", 200), `"` + strings.Repeat("a", 4096) + `"`,
	}
}

func repeated(n int, x lex.Token) []lex.Token { return slices.Repeat([]lex.Token{x}, n) }
