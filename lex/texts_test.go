package lex_test

import (
	"strings"
	"testing"

	"corollary/api"
	"corollary/lex"
)

func TestP5_1Texts(t *testing.T) {
	for s, want := range map[string]string{
		``: "", `a`: "a", ` `: " ", `  a  `: "  a  ", `\"`: "\"", `\\`: "\\", `\n`: "\n", `\t`: "\t", `\"\\\n\t`: "\"\\\n\t", `\\n`: "\\n", `\\\n`: "\\\n", `\\\\`: "\\\\", `a\"b\"`: `a"b"`, `'a'`: "'a'",
		`\x41`: "A", `\x00`: "\x00", `\x0a`: "\n", `\x09`: "\t", `\x22`: "\"", `\x5c`: "\\", `\x7f`: "\x7f", `\x80`: "\x80", `\xff`: "\xff", `\xe4`: "\xe4", `\x1f`: "\x1f", `\xab\xcd\xef`: "\xab\xcd\xef", `\x414`: "A4", `\x41\x42`: "AB", `\x00\x00`: "\x00\x00", `\\x41`: `\x41`,
		`# a`: "# a", `#`: "#", `a.b, X :- _ 12b`: "a.b, X :- _ 12b", `$`: "$", `012`: "012", `_a`: "_a", `~`: "~", `!`: "!", "\u00e4": "\u00e4", "\x80": "\x80", "\xff\xfe": "\xff\xfe", "a\xc3": "a\xc3", "\xed\xa0\x80": "\xed\xa0\x80", "\u2028": "\u2028",
	} {
		checkTokens(t, `"`+s+`"`, text(want))
		checkTokens(t, `"`+s+`""`+s+`"`, text(want), text(want))
		checkTokens(t, `"x`+s+`y".a`, text("x"+want+"y"), field("a"))
	}
}

// TestP5_1EveryByteInTexts has each byte as a mark, behind a backslash, and as digits.
func TestP5_1EveryByteInTexts(t *testing.T) {
	const hexadecimal = "0123456789abcdef"
	for n := range 256 {
		c := bytesOf(n)
		escape := `\x` + hexadecimal[n/16:n/16+1] + hexadecimal[n%16:n%16+1]
		checkTokens(t, `"`+escape+`"`, text(c))
		checkTokens(t, `"a`+escape+`0"`, text("a"+c+"0"))
		switch {
		case c == `"`:
			checkTokens(t, `"a`+c, text("a"))
		case c == `\`, n < 0x20, n == 0x7f:
			checkRefused(t, `"`+c+`"`, 1, 1, api.ErrForm)
			checkRefused(t, ` "a`+c+`b"`, 1, 2, api.ErrForm)
		default:
			checkTokens(t, `"`+c+`"`, text(c))
			checkTokens(t, `"a`+c+`b"`, text("a"+c+"b"))
		}
		if denoted, ok := map[string]string{`"`: `"`, `\`: `\`, "n": "\n", "t": "\t"}[c]; ok {
			checkTokens(t, `"a\`+c+`b"`, text("a"+denoted+"b"))
		} else {
			checkRefused(t, `"a\`+c+`b"`, 1, 1, api.ErrForm)
		}
		if !strings.Contains(hexadecimal, c) {
			for _, s := range []string{`"\x` + c + `0"`, `"\x0` + c + `"`, `"\x` + c + c + `"`, `"\x` + c + `"`, `"a\x0` + c + `0"`} {
				checkRefused(t, s, 1, 1, api.ErrForm)
			}
		}
	}
}

func TestP5_1WrongTexts(t *testing.T) {
	for _, s := range []string{
		`"`, `"a`, `"a b`, `"\"`, `"\\\"`, `"\`, `"\x`, `"\x4`, `"\x41`, `"\n`, `"\x"`, `"\x4"`, `"\xA0"`, `"\x0A"`, `"\xg0"`, `"\x-1"`, `"\x+1"`, `"\x 1"`, `"\X41"`, `"\N"`, `"\T"`, `"\r"`, `"\0"`, `"\u0041"`, `"\'"`, `"\b"`, `"\ "`, "\"\\\n\"", "\"\n\"", "\"\t\"", "\"a\nb\"", "\"\r\"", "\"\x00\"", "\"\x1f\"", "\"\x7f\"", "\"a\n", `"a # b`,
		`"` + strings.Repeat("a", 5000), `"` + strings.Repeat(`\"`, 5000), `"` + strings.Repeat("a", 5000) + "\n\"", `"` + strings.Repeat("a", 5000) + `\x4"`,
	} {
		checkRefused(t, s, 1, 1, api.ErrForm)
		checkRefused(t, "a.b # \"\n\t "+s, 2, 3, api.ErrForm)
		checkRefused(t, `"b"`+s, 1, 4, api.ErrForm)
		checkRefused(t, s+" $", 1, 1, api.ErrForm)
	}
}

// TestP5_1TextsAtTheLimit denotes as many bytes as there may be, and one more, in marks of all lengths.
func TestP5_1TextsAtTheLimit(t *testing.T) {
	for mark, denoted := range map[string]string{"a": "a", " ": " ", "\xff": "\xff", `\"`: `"`, `\\`: `\`, `\n`: "\n", `\t`: "\t", `\x00`: "\x00", `\xff`: "\xff", `\x41`: "A"} {
		most := strings.Repeat(mark, 4096)
		checkTokens(t, `"`+most+`"`, text(strings.Repeat(denoted, 4096)))
		checkTokens(t, `X"`+most[len(mark):]+`"Y`, variable("X"), text(strings.Repeat(denoted, 4095)), variable("Y"))
		checkTokens(t, `"`+most+`" "`+most+`"`, text(strings.Repeat(denoted, 4096)), text(strings.Repeat(denoted, 4096)))
		checkRefused(t, `"`+most+mark+`"`, 1, 1, api.ErrTooLarge)
		checkRefused(t, `"`+mark+`" "`+most+`a"`, 1, len(mark)+4, api.ErrTooLarge)
		checkRefused(t, "X\n "+`"`+most+strings.Repeat(mark, 5000)+`" $`, 2, 2, api.ErrTooLarge)
		checkRefused(t, `"`+most+mark, 1, 1, api.ErrForm) // it is not terminated, so it is none
	}
	checkTokens(t, `"`+strings.Repeat("\u00e4", 2048)+`"`, text(strings.Repeat("\u00e4", 2048)))
	checkRefused(t, `"`+strings.Repeat("\u00e4", 2048)+`a"`, 1, 1, api.ErrTooLarge)
	checkRefused(t, `"`+strings.Repeat("a", api.MaxText-2)+`"`, 1, 1, api.ErrTooLarge)
	checkRefused(t, `"`+strings.Repeat("a", api.MaxText-2)+"\n", 1, 1, api.ErrForm)
}

func TestP5_1TextsOfRandomMarks(t *testing.T) {
	g := newGenerator(1)
	marks := map[string]string{"a": "a", `"`: `\"`, `\`: `\\`, "\n": `\n`, "\t": `\t`, "\x00": `\x00`, "\x7f": `\x7f`, "\x80": "\x80", "\xff": `\xff`, "n": "n", "x": "x", "4": "4", "\u00e4": "\u00e4", "A": `\x41`, " ": " ", "#": "#"}
	denoted := []string{"a", `"`, `\`, "\n", "\t", "\x00", "\x7f", "\x80", "\xff", "n", "x", "4", "\u00e4", "A", " ", "#"}
	for range 5000 {
		var s, want strings.Builder
		for range g.IntN(12) {
			c := pick(g, denoted...)
			want.WriteString(c)
			s.WriteString(marks[c])
		}
		checkTokens(t, `"`+s.String()+`"`, lex.Token{Kind: lex.Text, Text: want.String()})
	}
}
