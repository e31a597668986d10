package lex_test

import (
	"regexp"
	"slices"
	"strconv"
	"strings"
	"testing"

	"corollary/api"
	"corollary/lex"
)

// table is the chapter's table of kinds, as patterns of the test's own library. In each, what is in parentheses is the text.
type table struct {
	between, marks *regexp.Regexp
	kinds          []row
}

type row struct {
	kind    uint8
	pattern *regexp.Regexp
}

func newTable() table {
	words := `(?:` + strings.Join(words(), "|") + `)\b`
	of := func(kind uint8, pattern string) row { return row{kind, regexp.MustCompile(`^(?:` + pattern + `)`)} }
	return table{
		between: regexp.MustCompile(`^(?:[ \t\n\r]|#[^\n]*)*`),
		marks:   regexp.MustCompile(`\\x..|\\.`),
		kinds: []row{
			of(lex.Word, `(`+words+`)`),
			of(lex.Name, `([a-z]\w*\.[a-z]\w*)`), // unless its second part is a word: see token
			of(lex.Name, `([a-z]\w*)`),
			of(lex.Variable, `([A-Z]\w*)`),
			of(lex.Any, `(_)\b`),
			of(lex.Int, `(0|[1-9][0-9]*)\b`),
			of(lex.Big, `(0|[1-9][0-9]*)b\b`),
			of(lex.Text, `"((?:[^\x00-\x1f"\\\x7f]|\\["\\nt]|\\x[0-9a-f]{2})*)"`),
			of(lex.Field, `\.([a-z]\w*)`), // unless it is a word
			of(lex.Sign, `(:-|==|!=|<=|>=|\+\+|[(),.:=|<>+*/%'-])`),
		},
	}
}

// token is the first token of a text, and how many bytes it has; 0, if there is none.
func (x table) token(s string) (lex.Token, int) {
	for _, r := range x.kinds {
		found := r.pattern.FindStringSubmatch(s)
		if found == nil {
			continue
		}
		if _, own, dotted := strings.Cut(found[0], "."); dotted && r.kind != lex.Text && slices.Contains(words(), own) {
			continue
		}
		if r.kind == lex.Text {
			found[1] = x.marks.ReplaceAllStringFunc(found[1], func(mark string) string {
				denoted, _ := strconv.Unquote(`"` + mark + `"`)
				return denoted
			})
		}
		return lex.Token{Kind: r.kind, Text: found[1]}, len(found[0])
	}
	return lex.Token{}, 0
}

// tooLong is the error of a token that is longer than it may be.
func tooLong(x lex.Token) api.Errno {
	switch x.Kind {
	case lex.Int, lex.Big:
		if len(x.Text) > 200 {
			return api.ErrOver
		}
	case lex.Text:
		if len(x.Text) > 4096 {
			return api.ErrTooLarge
		}
	default:
		for _, part := range strings.Split(x.Text, ".") {
			if len(part) > 32 {
				return api.ErrName
			}
		}
	}
	return api.OK
}

// tokens are those of a whole text.
func (x table) tokens(s string) ([]lex.Token, api.Pos, api.Errno) {
	var l []lex.Token
	offset := 0
	for {
		offset += len(x.between.FindString(s[offset:]))
		if offset == len(s) {
			return l, api.Pos{}, api.OK
		}
		p := api.Pos{Line: 1 + strings.Count(s[:offset], "\n"), Col: offset - strings.LastIndex(s[:offset], "\n")}
		found, size := x.token(s[offset:])
		if size == 0 {
			return nil, p, api.ErrForm
		}
		if e := tooLong(found); e != api.OK {
			return nil, p, e
		}
		found.Pos = p
		l = append(l, found)
		offset += size
	}
}

// check requires that a text has the tokens, or the error, of the table.
func (x table) check(t *testing.T, s string) {
	t.Helper()
	want, place, wrong := x.tokens(s)
	if l, p, e := lex.Tokens(s); e != wrong || p != place || !slices.Equal(l, want) {
		t.Errorf("Tokens(%q): %.99q, %v at %v, not %.99q, %v at %v", brief(s), lex.Show(l), e, p, lex.Show(want), wrong, place)
	}
}

// TestP5_1AllShortTexts tries each text of some bytes, and each of two of all bytes.
func TestP5_1AllShortTexts(t *testing.T) {
	x := newTable()
	for n := range 1 << 16 {
		x.check(t, string([]byte{byte(n >> 8), byte(n)}))
	}
	for _, bytes := range []string{"if.A_0b1 ", `"\x0fn` + "\n#", ":-=!<>+.", "a.orA(\n"} {
		x.check(t, "")
		longer := []string{""}
		for range 5 {
			var l []string
			for _, s := range longer {
				for _, c := range strings.Split(bytes, "") {
					l = append(l, s+c)
					x.check(t, s+c)
				}
			}
			longer = l
		}
	}
}

// TestP5_1RandomTexts tries texts of many pieces, and of any bytes.
func TestP5_1RandomTexts(t *testing.T) {
	x := newTable()
	g := newGenerator(8)
	for range 30000 {
		x.check(t, g.text(10, pieces()...))
		x.check(t, g.bytes(10))
	}
	for range 20 {
		x.check(t, g.text(5000, "a.b ", "not ", "X\n", "12b ", "\"\\n\" ", ":- ", "# a\n"))
	}
}
