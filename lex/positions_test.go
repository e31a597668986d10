package lex_test

import (
	"slices"
	"strings"
	"testing"

	"corollary/api"
	"corollary/lex"
)

func TestP5_5PositionsAreThoseOfTheBytes(t *testing.T) {
	g := newGenerator(4)
	for range 3000 {
		s, want := g.spaced(g.tokens(12))
		var got []int
		for _, x := range tokensOf(t, s) {
			got = append(got, offsetOf(s, x.Pos))
		}
		if !slices.Equal(got, want) {
			t.Errorf("%q: %v, not %v", s, got, want)
		}
	}
}

// TestP5_5PositionsAcrossLines has the variable X at a position, and then, in its place, what is no token.
func TestP5_5PositionsAcrossLines(t *testing.T) {
	for _, x := range []struct {
		before    string
		line, col int
	}{
		{"", 1, 1}, {" ", 1, 2}, {"\t", 1, 2}, {"\r", 1, 2}, {"\r\r", 1, 3}, {"\n", 2, 1}, {"\n ", 2, 2}, {" \n", 2, 1}, {"\r\n", 2, 1}, {"\n\r", 2, 2}, {"\n\n\n", 4, 1}, {"\n\n  ", 3, 3}, {"#\n", 2, 1}, {"# a\n\t ", 2, 3}, {"#\n#\n\n #\n  ", 5, 3}, {"# \u00e4\xff\n", 2, 1},
		{"a ", 1, 3}, {"a\n", 2, 1}, {"a.b ", 1, 5}, {"a.b.c ", 1, 7}, {"12b ", 1, 5}, {"12b\n\n  ", 3, 3}, {"_ ", 1, 3}, {"not ", 1, 5}, {".a ", 1, 4}, {":- ", 1, 4}, {":-", 1, 3}, {"(", 1, 2}, {"== ", 1, 4}, {"a#X\n", 2, 1}, {"a.\n", 2, 1}, {"a.", 1, 3},
		{`"" `, 1, 4}, {`""`, 1, 3}, {`"\n"`, 1, 5}, {`"\n\n" `, 1, 8}, {`"\x0a"`, 1, 7}, {"\"\u00e4\"", 1, 5}, {"\"\xff\xff\xff\" ", 1, 7}, {"\"\u00e4\" # \u00e4\n \"\u00e4\" ", 2, 7}, {"\"\U0001f600\"", 1, 7},
		{strings.Repeat("\n", 30000) + strings.Repeat(" ", 20000), 30001, 20001}, {strings.Repeat(" ", 60000), 1, 60001}, {"#" + strings.Repeat("a", 60000) + "\n", 2, 1}, {strings.Repeat("a\n", 30000) + " ", 30001, 2}, {strings.Repeat("( ", 30000), 1, 60001},
	} {
		s := x.before + "X"
		l := tokensOf(t, s)
		if len(l) == 0 || l[len(l)-1] != (lex.Token{Pos: api.Pos{Line: x.line, Col: x.col}, Kind: lex.Variable, Text: "X"}) {
			t.Errorf("%q: %d tokens, not X at %d, %d", brief(s), len(l), x.line, x.col)
		}
		checkPositions(t, s, l)
		for wrong, e := range wrongTokens() {
			checkRefused(t, x.before+wrong, x.line, x.col, e)
			checkRefused(t, x.before+wrong+"\n$", x.line, x.col, e)
		}
	}
}

// wrongTokens are texts at whose beginning there is no token, or one that is too long, with the errors. None is a name, which a point before it would make a part of another token.
func wrongTokens() map[string]api.Errno {
	return map[string]api.Errno{
		"$": api.ErrForm, "\\": api.ErrForm, "\x00": api.ErrForm, "\x7f": api.ErrForm, "\xff": api.ErrForm, "\u00e4": api.ErrForm, "!": api.ErrForm, "012": api.ErrForm, "9a": api.ErrForm, "12bb": api.ErrForm, "_a": api.ErrForm, `"\a"`: api.ErrForm, `"a`: api.ErrForm, `"\x4"`: api.ErrForm,
		"V" + strings.Repeat("n", 32): api.ErrName, "V" + strings.Repeat("n", 32) + "$": api.ErrName, strings.Repeat("9", 201): api.ErrOver, strings.Repeat("9", 201) + "b": api.ErrOver, `"` + strings.Repeat("a", 4097) + `"`: api.ErrTooLarge,
	}
}

// TestErrorsFromTheLeft has two wrong tokens of all sorts in a text: the first one is reported.
func TestErrorsFromTheLeft(t *testing.T) {
	for first, e := range wrongTokens() {
		for second := range wrongTokens() {
			checkRefused(t, first+"\n"+second, 1, 1, e)
			checkRefused(t, "a(X) :- b.c(X).\n  "+first+"\n"+second, 2, 3, e)
			checkRefused(t, "# "+second+"\n"+first+"\n\n"+second, 2, 1, e)
			checkRefused(t, `"`+strings.Repeat("a", 4096)+`" `+first+"\n"+second, 1, 4100, e)
		}
		checkRefused(t, first+strings.Repeat("\n", api.MaxText), 1, 1, api.ErrTooLarge)
		checkRefused(t, "\n\n "+first+strings.Repeat("\n", api.MaxText), 1, 1, api.ErrTooLarge)
	}
}

// TestErrorsOfTheFormComeFirst has tokens that are too long, but for which there is none at their position.
func TestErrorsOfTheFormComeFirst(t *testing.T) {
	for _, s := range []string{
		"0" + strings.Repeat("9", 201), strings.Repeat("9", 201) + "a", strings.Repeat("9", 201) + "bb", strings.Repeat("9", 201) + strings.Repeat("n", 33), "_" + strings.Repeat("n", 33), "_" + strings.Repeat("9", 201), strings.Repeat("_", 33),
		`"` + strings.Repeat("a", 4097), `"` + strings.Repeat("a", 4097) + "\n\"", `"` + strings.Repeat("a", 4097) + `\a"`, `"` + strings.Repeat("a", 4097) + `\"`, `"\a` + strings.Repeat("a", 4097) + `"`,
	} {
		checkRefused(t, s, 1, 1, api.ErrForm)
		checkRefused(t, "X\n"+s, 2, 1, api.ErrForm)
	}
}
