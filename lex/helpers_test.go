package lex_test

import (
	"math/rand/v2"
	"slices"
	"strings"
	"testing"

	"corollary/api"
	"corollary/lex"
)

func word(s string) lex.Token     { return lex.Token{Kind: lex.Word, Text: s} }
func name(s string) lex.Token     { return lex.Token{Kind: lex.Name, Text: s} }
func variable(s string) lex.Token { return lex.Token{Kind: lex.Variable, Text: s} }
func anything() lex.Token         { return lex.Token{Kind: lex.Any, Text: "_"} }
func num(s string) lex.Token      { return lex.Token{Kind: lex.Int, Text: s} }
func long(s string) lex.Token     { return lex.Token{Kind: lex.Big, Text: s} }
func text(s string) lex.Token     { return lex.Token{Kind: lex.Text, Text: s} }
func sign(s string) lex.Token     { return lex.Token{Kind: lex.Sign, Text: s} }
func field(s string) lex.Token    { return lex.Token{Kind: lex.Field, Text: s} }

// bytesOf is a text of one byte.
func bytesOf(n int) string { return string([]byte{byte(n)}) }

const (
	small   = "abcdefghijklmnopqrstuvwxyz"
	capital = "ABCDEFGHIJKLMNOPQRSTUVWXYZ"
	digits  = "0123456789"
	blanks  = " \t\n\r"
)

func words() []string {
	return strings.Fields("module import pub type input rel never not and or if then else true false count sum min max")
}

func signs() []string {
	return strings.Fields("( ) , . : = | < > + - * / % ' :- == != <= >= ++")
}

// brief is the beginning of a text, for a message.
func brief(s string) string { return s[:min(len(s), 99)] }

// withoutPositions are tokens of the same kinds and texts.
func withoutPositions(l []lex.Token) []lex.Token {
	var plain []lex.Token
	for _, x := range l {
		plain = append(plain, lex.Token{Kind: x.Kind, Text: x.Text})
	}
	return plain
}

// tokensOf are the tokens of a text that has some.
func tokensOf(t *testing.T, s string) []lex.Token {
	t.Helper()
	l, p, e := lex.Tokens(s)
	if e != api.OK || p != (api.Pos{}) {
		t.Errorf("Tokens(%q): %v at %v", brief(s), e, p)
	}
	return l
}

// checkTokens requires that a text has just these kinds and texts, at positions where they begin.
func checkTokens(t *testing.T, s string, want ...lex.Token) {
	t.Helper()
	l := tokensOf(t, s)
	if !slices.Equal(withoutPositions(l), want) {
		t.Errorf("Tokens(%q): %.99q, not %.99q", brief(s), lex.Show(l), lex.Show(want))
	}
	checkPositions(t, s, l)
}

// checkPositions requires that positions increase, and that what is there begins as the tokens do.
func checkPositions(t *testing.T, s string, l []lex.Token) {
	t.Helper()
	lines := strings.Split(s, "\n")
	last := api.Pos{}
	for _, x := range l {
		p := x.Pos
		if p.Line < last.Line || p.Line == last.Line && p.Col <= last.Col {
			t.Errorf("%q: %v, and then %v", brief(s), last, p)
		}
		last = p
		if p.Line < 1 || p.Line > len(lines) || p.Col < 1 || p.Col > len(lines[p.Line-1]) {
			t.Errorf("%q: there is nothing at %v", brief(s), p)
			continue
		}
		begins := x.Text
		switch x.Kind {
		case lex.Text:
			begins = `"`
		case lex.Field:
			begins = "." + x.Text
		case lex.Big:
			begins = x.Text + "b"
		}
		if found := lines[p.Line-1][p.Col-1:]; !strings.HasPrefix(found, begins) {
			t.Errorf("%q: at %v is %.20q, not %.20q", brief(s), p, found, begins)
		}
	}
}

// checkRefused requires that a text has no tokens, but an error at a position.
func checkRefused(t *testing.T, s string, line, col int, want api.Errno) {
	t.Helper()
	l, p, e := lex.Tokens(s)
	if len(l) != 0 || p != (api.Pos{Line: line, Col: col}) || e != want {
		t.Errorf("Tokens(%q): %d tokens, %v at %v, not %v at %d, %d", brief(s), len(l), e, p, want, line, col)
	}
}

// generator makes the same things each time.
type generator struct{ *rand.Rand }

func newGenerator(seed uint64) generator { return generator{rand.New(rand.NewPCG(seed, 5))} }

func pick[T any](g generator, l ...T) T { return l[g.IntN(len(l))] }

// text makes a text of some of these pieces.
func (g generator) text(most int, pieces ...string) string {
	var b strings.Builder
	for range g.IntN(most + 1) {
		b.WriteString(pick(g, pieces...))
	}
	return b.String()
}

// part makes what may be a part of a name behind its beginning.
func (g generator) part() string {
	return g.text(pick(g, 1, 3, 31), strings.Split(small+capital+digits+"_", "")...)
}

// plainName makes a name without points.
func (g generator) plainName() string {
	for {
		if s := pick(g, strings.Split(small, "")...) + g.part(); !slices.Contains(words(), s) {
			return s
		}
	}
}

func (g generator) number() string {
	if s := strings.TrimLeft(g.text(pick(g, 1, 3, 200), strings.Split(digits, "")...), "0"); s != "" {
		return s
	}
	return "0"
}

// bytes makes any bytes, some of which are more likely.
func (g generator) bytes(most int) string {
	var b strings.Builder
	for range g.IntN(most + 1) {
		b.WriteString(pick(g, bytesOf(g.IntN(256)), "\"", "\\", "\n", "\t", "x", "a", "\x7f", "\x80", "\xff", "\u00e4", "#"))
	}
	return b.String()
}

// token makes a token of any kind.
func (g generator) token() lex.Token {
	switch uint8(1 + g.IntN(9)) {
	case lex.Word:
		return word(pick(g, words()...))
	case lex.Name:
		return name(g.plainName() + pick(g, "", "."+g.plainName()))
	case lex.Variable:
		return variable(pick(g, strings.Split(capital, "")...) + g.part())
	case lex.Int:
		return num(g.number())
	case lex.Big:
		return long(g.number())
	case lex.Text:
		return text(g.bytes(20))
	case lex.Sign:
		return sign(pick(g, signs()...))
	case lex.Field:
		return field(g.plainName())
	}
	return anything()
}

// between makes blanks and comments, which may stand between two tokens.
func (g generator) between() string {
	s := g.text(2, " ", "\t", "\n", "\r", "\r\n", "#\n", "# a\n", "#\"\n", "## 012 $ _a\n", "#\x00\x7f\xff\u00e4\n")
	if g.IntN(4) == 0 {
		s += "#" + strings.ReplaceAll(g.bytes(5), "\n", "") + "\n"
	}
	return s
}

// tokens makes some tokens.
func (g generator) tokens(most int) []lex.Token {
	var l []lex.Token
	for range 1 + g.IntN(most) {
		l = append(l, g.token())
	}
	return l
}

// shownEach are tokens as they stand in texts.
func shownEach(l []lex.Token) []string {
	var texts []string
	for _, x := range l {
		texts = append(texts, lex.Show([]lex.Token{x}))
	}
	return texts
}

// spaced is a text of tokens, with blanks, and perhaps comments, between each two and at both ends, and where each begins in it.
func (g generator) spaced(l []lex.Token) (string, []int) {
	var s strings.Builder
	var begins []int
	s.WriteString(g.between())
	for _, x := range shownEach(l) {
		begins = append(begins, s.Len())
		s.WriteString(x + pick(g, strings.Split(blanks, "")...) + g.between())
	}
	return s.String(), begins
}

// offsetOf is how many bytes are before a position.
func offsetOf(s string, p api.Pos) int {
	offset := p.Col - 1
	for _, line := range strings.Split(s, "\n")[:p.Line-1] {
		offset += len(line) + 1
	}
	return offset
}
