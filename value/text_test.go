package value_test

import (
	"math"
	"strings"
	"testing"

	"corollary/api"
	"corollary/value"
)

func TestP2_1Show(t *testing.T) {
	for _, x := range []struct {
		v    api.Value
		want string
	}{
		{boolean(0), "false"}, {boolean(1), "true"},
		{num(0), "0"}, {num(7), "7"}, {num(-105), "-105"}, {num(math.MaxInt64), "9223372036854775807"}, {num(math.MinInt64), "-9223372036854775808"},
		{long("0"), "0b"}, {long("7"), "7b"}, {long("-105"), "-105b"}, {long("9999999999999999999"), "9999999999999999999b"}, {long("-" + nines(200)), "-" + nines(200) + "b"},
		{text(""), `""`}, {text("abc"), `"abc"`}, {text(`a"b`), `"a\"b"`}, {text(`a\b`), `"a\\b"`}, {text("a\nb\tc"), `"a\nb\tc"`}, {text("\r\v\f\b\a"), `"\x0d\x0b\x0c\x08\x07"`},
		{text("a\"\xff"), `"a\"\xff"`}, {text(" ~"), `" ~"`}, {text("\x1f\x7f\x00\x80"), `"\x1f\x7f\x00\x80"`}, {text("\u00e4"), `"\xc3\xa4"`}, {text("'`"), "\"'`\""},
		{tuple(), "()"}, {api.Value{Kind: api.Tuple, L: []api.Value{}}, "()"}, {tuple(num(1), text("a")), `(1, "a")`}, {tuple(num(1), num(2), num(3)), "(1, 2, 3)"}, {tuple(tuple(), tuple(num(1), num(2))), "((), (1, 2))"},
		{tuple(times(16, num(1))...), "(" + strings.Repeat("1, ", 15) + "1)"},
		{cons("nil"), "nil"}, {api.Value{Kind: api.Cons, S: "nil", L: []api.Value{}}, "nil"}, {cons("cons", num(1), cons("nil")), "cons(1, nil)"}, {cons("m.a", boolean(1)), "m.a(true)"}, {cons("m.a"), "m.a"}, {cons("a", tuple()), "a(())"},
		{cons("a", tuple(long("-1"), cons("b", text("c")))), `a((-1b, b("c")))`}, {cons("a", times(8, boolean(0))...), "a(" + strings.Repeat("false, ", 7) + "false)"},
		{nested(64, num(1)), strings.Repeat("s(", 63) + "1" + strings.Repeat(")", 63)},
	} {
		if s := value.Show(x.v); s != x.want {
			t.Errorf("Show: %s, not %s", s, x.want)
		}
	}
}

func TestP2_1ShowOfEveryByte(t *testing.T) {
	const digits = "0123456789abcdef"
	for n := range 256 {
		c := string([]byte{byte(n)})
		want := `\x` + digits[n/16:n/16+1] + digits[n%16:n%16+1]
		switch {
		case c == `"` || c == `\`:
			want = `\` + c
		case c == "\n":
			want = `\n`
		case c == "\t":
			want = `\t`
		case n >= 0x20 && n <= 0x7e:
			want = c
		}
		if s := value.Show(text(c)); s != `"`+want+`"` {
			t.Errorf("Show of byte %x: %s", n, s)
		}
		if s := value.Show(text("a" + c + "b" + c)); s != `"a`+want+"b"+want+`"` {
			t.Errorf("Show with byte %x: %s", n, s)
		}
	}
}

func TestP2_1ShowOfInvalidValues(t *testing.T) {
	for _, v := range invalid() {
		if s := value.Show(v); s != "" {
			t.Errorf("Show of Kind %d: %.100q", v.Kind, s)
		}
	}
}

// TestP2_4Texts holds the texts of many values against one another, with those that are nearly alike.
func TestP2_4Texts(t *testing.T) {
	l := append(increasing(),
		text("true"), text("1"), text("1b"), text("()"), text("(1, 2)"), text("nil"), text("\\n"), text("\n"), text("\\x0a"), text("\x0a"), text("\\\""), text("\\"), text("\""), text(`a", "b`), tuple(text("a"), text("b")),
		tuple(text("a, b"), text("c")), tuple(text("a"), text("b, c")), tuple(text("a"), text("b"), text("c")), tuple(text(`a", "b`), text("c")), tuple(text("a"), text(`b", "c`)),
		tuple(tuple(num(1), num(2)), num(3)), tuple(num(1), tuple(num(2), num(3))), tuple(num(1), num(2), num(3)), cons("a", tuple(num(1), num(2))), cons("a", num(1), num(2)), cons("a", tuple()), cons("a"), cons("a", cons("b"), cons("c")), cons("a", cons("b", cons("c"))),
		num(11), tuple(num(1), num(11)), tuple(num(11), num(1)), long("11"), cons("b1"), cons("m.true"), cons("t"), cons("x0a"),
	)
	g := newGenerator(5)
	for range 20000 {
		l = append(l, g.value(3))
	}
	texts := map[string]api.Value{}
	for _, v := range l {
		s := value.Show(v)
		if other, ok := texts[s]; ok && !same(row(v), row(other)) {
			t.Errorf("%v, %v: both %s", v, other, s)
		}
		if s == "" || s != value.Show(deepCopy(row(v))[0]) {
			t.Errorf("%v: %q, and %q", v, s, value.Show(deepCopy(row(v))[0]))
		}
		texts[s] = v
	}
	if len(texts) < 3000 {
		t.Errorf("only %d texts", len(texts))
	}
}
