package lex_test

import (
	"strings"
	"testing"

	"corollary/api"
	"corollary/lex"
)

// TestP5_1BlanksAndComments has them alone, at the beginning, between tokens, and at the end.
func TestP5_1BlanksAndComments(t *testing.T) {
	for _, s := range []string{
		" ", "\t", "\n", "\r", "\r\n", "\n\r", "  \t\n\r ", "\n\n\n", "#\n", "# a\n", "##\n", "#\n#\n", "#a\n #b\n\n#c\n", "# X :- Y. \"\n", "#\"\"\n", "#\r\n", "# a\rb\n", "#\\\n", "#\x00\x01\x0b\x7f\x80\xff\n", "# \u00e4\n", "# 012 _a $ \"\n", "#" + strings.Repeat("#", 5000) + "\n", "# a # b\n", " # a\n \t",
	} {
		checkTokens(t, s)
		checkTokens(t, s+s)
		checkTokens(t, s+"a", name("a"))
		checkTokens(t, "a"+s, name("a"))
		checkTokens(t, "a"+s+"b", name("a"), name("b"))
		checkTokens(t, "a"+s+".b", name("a"), field("b"))
		checkTokens(t, "a."+s+"b", name("a"), sign("."), name("b"))
		checkTokens(t, "1"+s+"b"+s+"2", num("1"), name("b"), num("2"))
		checkTokens(t, s+"_"+s+"X"+s+":"+s+"-"+s+`"a"`+s, anything(), variable("X"), sign(":"), sign("-"), text("a"))
	}
}

// TestP5_1CommentsWithoutAnEnd has some that only the end of the text ends, with what would be tokens, or none, elsewhere.
func TestP5_1CommentsWithoutAnEnd(t *testing.T) {
	for _, s := range []string{"#", "# a", "# X :- Y.", "#\"", "##", "# a # b", "#\r", "# a\rb", "#\\n", "#\x00", "#\xff", "# $ 012 _a \x7f", "#a.b", "# \"a\\"} {
		checkTokens(t, s)
		checkTokens(t, "\n"+s)
		checkTokens(t, "a"+s, name("a"))
		checkTokens(t, "not "+s, word("not"))
		checkTokens(t, "_"+s, anything())
		checkTokens(t, "12b"+s, long("12"))
		checkTokens(t, "12"+s, num("12"))
		checkTokens(t, `"#"`+s, text("#"))
		checkTokens(t, s+"\nX"+s, variable("X"))
		checkRefused(t, "$"+s, 1, 1, api.ErrForm)
		checkRefused(t, s+"\n$"+s, 2, 1, api.ErrForm)
	}
}

// TestP5_1WhatIsNoBlank has what other languages skip.
func TestP5_1WhatIsNoBlank(t *testing.T) {
	for _, s := range []string{"\x00", "\x0b", "\x0c", "\x1a", "\x7f", "\x85", "\xa0", "\u00a0", "\u2028", "\ufeff", ";", "\\\n"} {
		checkRefused(t, s, 1, 1, api.ErrForm)
		checkRefused(t, s+"a", 1, 1, api.ErrForm)
		checkRefused(t, "a "+s+" b", 1, 3, api.ErrForm)
		checkRefused(t, "a"+s, 1, 2, api.ErrForm)
	}
	checkTokens(t, "// a", sign("/"), sign("/"), name("a"))
	checkTokens(t, "-- a", sign("-"), sign("-"), name("a"))
	checkTokens(t, "/* */", sign("/"), sign("*"), sign("*"), sign("/"))
}

// TestP5_4Between has the same tokens with various blanks and comments between them, and at both ends.
func TestP5_4Between(t *testing.T) {
	g := newGenerator(2)
	for range 2000 {
		l := g.tokens(12)
		checkTokens(t, strings.Join(shownEach(l), " "), l...)
		for range 3 {
			s, _ := g.spaced(l)
			checkTokens(t, s, l...)
		}
	}
}

// TestP5_4BetweenTokensSideBySide inserts blanks and comments between two tokens that nothing separates.
func TestP5_4BetweenTokensSideBySide(t *testing.T) {
	g := newGenerator(3)
	inserted := 0
	for range 20000 {
		s := strings.Join(shownEach(g.tokens(4)), "")
		l, _, e := lex.Tokens(s)
		if e != api.OK || len(l) < 2 {
			continue
		}
		inserted++
		second := offsetOf(s, l[1].Pos)
		for _, between := range []string{" ", "\t", "\n", "\r", "#\n", "# a.b \"\n", g.between()} {
			checkTokens(t, s[:second]+between+s[second:], withoutPositions(l)...)
		}
	}
	if inserted < 5000 {
		t.Errorf("only %d", inserted)
	}
}
