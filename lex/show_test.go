package lex_test

import (
	"strings"
	"testing"

	"corollary/lex"
)

func checkShow(t *testing.T, want string, l ...lex.Token) {
	t.Helper()
	if s := lex.Show(l); s != want {
		t.Errorf("Show(%v): %q, not %q", l, brief(s), brief(want))
	}
}

func TestP5_2ShowOfEveryKind(t *testing.T) {
	checkShow(t, "")
	checkShow(t, "", []lex.Token{}...)
	checkShow(t, "not", word("not"))
	checkShow(t, "a", name("a"))
	checkShow(t, "a.b", name("a.b"))
	checkShow(t, "X", variable("X"))
	checkShow(t, "_", anything())
	checkShow(t, "12", num("12"))
	checkShow(t, "12b", long("12"))
	checkShow(t, `"12"`, text("12"))
	checkShow(t, `""`, text(""))
	checkShow(t, ":-", sign(":-"))
	checkShow(t, ".a", field("a"))
	checkShow(t, `not a.b X _ 12 12b "a\nb" . .c`, word("not"), name("a.b"), variable("X"), anything(), num("12"), long("12"), text("a\nb"), sign("."), field("c"))
	checkShow(t, "a a", name("a"), name("a"))
	checkShow(t, ": - = =", sign(":"), sign("-"), sign("="), sign("="))
	positioned := name("a")
	positioned.Pos.Line, positioned.Pos.Col = 7, 9
	checkShow(t, "a a", positioned, positioned)
	checkShow(t, strings.Repeat("1b ", 70000)+"X", append(repeated(70000, long("1")), variable("X"))...)
}

// TestP5_2ShowOfAnyTokens has some that Tokens never returns: each is still its text, with what its kind adds.
func TestP5_2ShowOfAnyTokens(t *testing.T) {
	for _, s := range []string{"", " ", "a b", "\n", "\"", "\\", "#", "012", "_", "X", "a.b.c", ".", "\x00\x7f\xff", "\u00e4", "b", strings.Repeat("a", 5000)} {
		for kind := range 256 {
			x := lex.Token{Kind: uint8(kind), Text: s}
			want := s
			switch x.Kind {
			case lex.Big:
				want = s + "b"
			case lex.Field:
				want = "." + s
			case lex.Text:
				want = lex.Quote(s)
			}
			checkShow(t, want, x)
			checkShow(t, want+" "+want, x, x)
			checkShow(t, "X "+want+" _", variable("X"), x, anything())
		}
	}
	checkShow(t, "  ", lex.Token{}, lex.Token{}, lex.Token{})
}

func checkQuote(t *testing.T, s, want string) {
	t.Helper()
	if q := lex.Quote(s); q != want {
		t.Errorf("Quote(%q): %q, not %q", brief(s), brief(q), brief(want))
	}
	checkShow(t, want, text(s))
}

func TestP5_2Quote(t *testing.T) {
	for s, want := range map[string]string{
		"": `""`, "abc": `"abc"`, " a ": `" a "`, `a"b`: `"a\"b"`, `a\b`: `"a\\b"`, "a\nb\tc": `"a\nb\tc"`, "\r\v\f\b\a": `"\x0d\x0b\x0c\x08\x07"`, "\x00\x1f\x7f": `"\x00\x1f\x7f"`, "\x80\xff": "\"\x80\xff\"", "\u00e4": "\"\u00e4\"", "~'`": "\"~'`\"", `\n`: `"\\n"`, `\x41`: `"\\x41"`, `""`: `"\"\""`, "\x0041": `"\x0041"`, "\\\"": `"\\\""`, "#": `"#"`,
		strings.Repeat("\x00", 5000): `"` + strings.Repeat(`\x00`, 5000) + `"`, strings.Repeat("a", 100000): `"` + strings.Repeat("a", 100000) + `"`,
	} {
		checkQuote(t, s, want)
	}
}

func TestP5_2QuoteOfEveryByte(t *testing.T) {
	const hexadecimal = "0123456789abcdef"
	for n := range 256 {
		c := bytesOf(n)
		want := c
		switch {
		case c == `"` || c == `\`:
			want = `\` + c
		case c == "\n":
			want = `\n`
		case c == "\t":
			want = `\t`
		case n < 0x20 || n == 0x7f:
			want = `\x` + hexadecimal[n/16:n/16+1] + hexadecimal[n%16:n%16+1]
		}
		checkQuote(t, c, `"`+want+`"`)
		checkQuote(t, "a"+c+"b"+c, `"a`+want+"b"+want+`"`)
		checkTokens(t, lex.Quote(c), text(c))
		checkTokens(t, lex.Quote("x"+c+c+"4"), text("x"+c+c+"4"))
	}
}
