package code_test

import (
	"bytes"
	"math"
	"strings"
	"testing"

	"corollary/api"
	"corollary/code"
)

// checkBytes compares what was written with what must be, in hexadecimal digits.
func checkBytes(t *testing.T, what any, got []byte, want string) {
	t.Helper()
	if !bytes.Equal(got, bytesOf(t, want)) {
		t.Errorf("%v: % x, not %s", what, got, want)
	}
}

func TestP3_1Num(t *testing.T) {
	for _, x := range []struct {
		n    int64
		want string
	}{
		{0, "80"}, {1, "81 01"}, {127, "81 7f"}, {128, "81 80"}, {255, "81 ff"}, {256, "82 01 00"}, {300, "82 01 2c"}, {65535, "82 ff ff"}, {65536, "83 01 00 00"}, {1<<24 - 1, "83 ff ff ff"}, {1 << 24, "84 01 00 00 00"},
		{1<<32 - 1, "84 ff ff ff ff"}, {1 << 32, "85 01 00 00 00 00"}, {1<<40 - 1, "85 ff ff ff ff ff"}, {1 << 40, "86 01 00 00 00 00 00"}, {1<<48 - 1, "86 ff ff ff ff ff ff"}, {1 << 48, "87 01 00 00 00 00 00 00"},
		{1<<56 - 1, "87 ff ff ff ff ff ff ff"}, {1 << 56, "88 01 00 00 00 00 00 00 00"}, {0x0123456789abcdef, "88 01 23 45 67 89 ab cd ef"}, {math.MaxInt64 - 1, "88 7f ff ff ff ff ff ff fe"}, {math.MaxInt64, "88 7f ff ff ff ff ff ff ff"},
		{-1, "7f"}, {-2, "7e fe"}, {-128, "7e 80"}, {-129, "7e 7f"}, {-256, "7e 00"}, {-257, "7d fe ff"}, {-300, "7d fe d4"}, {-65536, "7d 00 00"}, {-65537, "7c fe ff ff"}, {-1 << 24, "7c 00 00 00"}, {-1<<24 - 1, "7b fe ff ff ff"},
		{-1 << 32, "7b 00 00 00 00"}, {-1<<32 - 1, "7a fe ff ff ff ff"}, {-1 << 40, "7a 00 00 00 00 00"}, {-1<<40 - 1, "79 fe ff ff ff ff ff"}, {-1 << 48, "79 00 00 00 00 00 00"}, {-1<<48 - 1, "78 fe ff ff ff ff ff ff"},
		{-1 << 56, "78 00 00 00 00 00 00 00"}, {-1<<56 - 1, "77 fe ff ff ff ff ff ff ff"}, {math.MinInt64 + 1, "77 80 00 00 00 00 00 00 01"}, {math.MinInt64, "77 80 00 00 00 00 00 00 00"},
	} {
		checkBytes(t, x.n, code.Num(nil, x.n), x.want)
	}
}

func TestP3_1Count(t *testing.T) {
	for _, x := range []struct {
		n    int
		want string
	}{
		{0, "00"}, {1, "01 01"}, {127, "01 7f"}, {128, "01 80"}, {255, "01 ff"}, {256, "02 01 00"}, {300, "02 01 2c"}, {65535, "02 ff ff"}, {65536, "03 01 00 00"}, {1<<24 - 1, "03 ff ff ff"}, {1 << 24, "04 01 00 00 00"}, {math.MaxInt32 - 1, "04 7f ff ff fe"}, {math.MaxInt32, "04 7f ff ff ff"},
		{-1, ""}, {-2, ""}, {-300, ""}, {math.MinInt32, ""}, {math.MinInt, ""}, {math.MaxInt32 + 1, ""}, {math.MaxUint32, ""}, {math.MaxUint32 + 1, ""}, {math.MaxInt, ""},
	} {
		checkBytes(t, x.n, code.Count(nil, x.n), x.want)
	}
}

func TestP3_1Str(t *testing.T) {
	for _, x := range []struct{ s, want string }{
		{"", "00 00"}, {"ab", "61 62 00 00"}, {"\x00", "00 ff 00 00"}, {"\x00\x00", "00 ff 00 ff 00 00"}, {"\xff", "ff 00 00"}, {"\x00\xff", "00 ff ff 00 00"}, {"\xff\x00", "ff 00 ff 00 00"}, {"a\x00b", "61 00 ff 62 00 00"},
		{"\x01", "01 00 00"}, {"\u00e4", "c3 a4 00 00"}, {"\x00\x00\xff\xff\x00", "00 ff 00 ff ff ff 00 ff 00 00"}, {strings.Repeat("a", 5000), strings.Repeat("61", 5000) + "00 00"}, {strings.Repeat("\x00", 5000), strings.Repeat("00 ff", 5000) + "00 00"},
	} {
		checkBytes(t, x.s, code.Str(nil, x.s), x.want)
	}
	for n := range 256 {
		c := string([]byte{byte(n)})
		want := "a" + c + "b" + c + "\x00\x00"
		if n == 0 {
			want = "a\x00\xffb\x00\xff\x00\x00"
		}
		if got := code.Str(nil, "a"+c+"b"+c); string(got) != want {
			t.Errorf("byte %x: % x", n, got)
		}
	}
}

func TestP3_1Flag(t *testing.T) {
	checkBytes(t, true, code.Flag(nil, true), "01")
	checkBytes(t, false, code.Flag(nil, false), "00")
}

func TestP3_1Value(t *testing.T) {
	nines, fs := strings.Repeat("39", 200), strings.Repeat("c6", 200)
	for _, x := range []struct {
		v    api.Value
		want string
	}{
		{boolean(0), "01 00"}, {boolean(1), "01 01"},
		{num(0), "02 80"}, {num(-1), "02 7f"}, {num(-2), "02 7e fe"}, {num(300), "02 82 01 2c"}, {num(math.MaxInt64), "02 88 7f ff ff ff ff ff ff ff"}, {num(math.MinInt64), "02 77 80 00 00 00 00 00 00 00"},
		{long("0"), "03 80 01 01 30"}, {long("10"), "03 80 01 02 31 30"}, {long("9999999999"), "03 80 01 0a" + strings.Repeat("39", 10)}, {long(strings.Repeat("9", 200)), "03 80 01 c8" + nines},
		{long("-5"), "03 7f fe fe ca"}, {long("-1"), "03 7f fe fe ce"}, {long("-10"), "03 7f fe fd ce cf"}, {long("-" + strings.Repeat("9", 200)), "03 7f fe 37" + fs},
		{text(""), "04 00 00"}, {text("a"), "04 61 00 00"}, {text("\x00\xff"), "04 00 ff ff 00 00"}, {text(strings.Repeat("\x00", 4096)), "04" + strings.Repeat("00 ff", 4096) + "00 00"},
		{tuple(), "05 00"}, {tuple(boolean(1), text("a")), "05 01 01 01 01 04 61 00 00 00"}, {tuple(num(0), tuple(), tuple(boolean(0), num(1))), "05 01 02 80 01 05 00 01 05 01 01 00 01 02 81 01 00 00"}, {tuple(times(16, boolean(0))...), "05" + strings.Repeat("01 01 00", 16) + "00"},
		{cons("nil"), "06 6e 69 6c 00 00 00"}, {cons("a.b"), "06 61 2e 62 00 00 00"}, {cons("a", num(1)), "06 61 00 00 01 02 81 01 00"}, {cons("a", cons("b"), boolean(1)), "06 61 00 00 01 06 62 00 00 00 01 01 01 00"}, {cons("a", times(8, boolean(1))...), "06 61 00 00" + strings.Repeat("01 01 01", 8) + "00"},
		{api.Value{Kind: api.Tuple, L: []api.Value{}}, "05 00"}, {api.Value{Kind: api.Int, L: []api.Value{}}, "02 80"}, {tuple(times(3, num(9))[:2]...), "05 01 02 81 09 01 02 81 09 00"},
		{nested(64, num(-1)), strings.Repeat("06 73 00 00 01 05 01", 31) + "06 73 00 00 01 02 7f 00" + strings.Repeat("01 02 80 00 00", 31)},
	} {
		checkBytes(t, x.v, code.Value(nil, x.v), x.want)
	}
}

func TestP3_1ValueOfInvalidValues(t *testing.T) {
	for i, v := range invalid() {
		if b := code.Value(nil, v); len(b) != 0 {
			t.Errorf("value %d, of Kind %d: % x", i, v.Kind, b)
		}
		if b := code.Value([]byte("ab"), v); string(b) != "ab" {
			t.Errorf("value %d, of Kind %d, behind others: % x", i, v.Kind, b)
		}
	}
}

// writers are calls that write something, or nothing, by what they write.
func writers() map[string]func(b []byte) []byte {
	return map[string]func(b []byte) []byte{
		"7f":                                     func(b []byte) []byte { return code.Num(b, -1) },
		"77 80 00 00 00 00 00 00 00":             func(b []byte) []byte { return code.Num(b, math.MinInt64) },
		"82 01 2c":                               func(b []byte) []byte { return code.Num(b, 300) },
		"02 01 2c":                               func(b []byte) []byte { return code.Count(b, 300) },
		"00":                                     func(b []byte) []byte { return code.Count(b, 0) },
		"61 00 ff 00 00":                         func(b []byte) []byte { return code.Str(b, "a\x00") },
		"01":                                     func(b []byte) []byte { return code.Flag(b, true) },
		"05 01 03 7f fe fe ca 01 04 61 00 00 00": func(b []byte) []byte { return code.Value(b, tuple(long("-5"), text("a"))) },
		"":                                       func(b []byte) []byte { return code.Count(b, -1) },
		" ":                                      func(b []byte) []byte { return code.Count(b, math.MaxInt32+1) },
		"  ":                                     func(b []byte) []byte { return code.Value(b, tuple(num(1))) },
		"   ":                                    func(b []byte) []byte { return code.Value(b, api.Value{}) },
	}
}

func TestP3_1FollowsWhatIsThere(t *testing.T) {
	for want, write := range writers() {
		for _, b := range []string{"", "a", "\x00", "\xff\xff", strings.Repeat("\x7f", 5000)} {
			got := write([]byte(b))
			rest, ok := bytes.CutPrefix(got, []byte(b))
			if !ok {
				t.Errorf("%q behind %q: % x", want, b, got)
			}
			checkBytes(t, "behind "+b, rest, want)
		}
	}
}

// TestP3_1NewMemory writes behind bytes that have room behind them, and that are changed later.
func TestP3_1NewMemory(t *testing.T) {
	for want, write := range writers() {
		for _, length := range []int{0, 3} {
			b := []byte("abcdefghijklmnopqrstuvwxyz")
			got := write(b[:length])
			if string(b) != "abcdefghijklmnopqrstuvwxyz" {
				t.Errorf("%q: what was given has become %s", want, b)
			}
			if cap(got) > 0 {
				before, place := string(got), &got[:cap(got)][cap(got)-1]
				for i := range b {
					b[i] = '!'
					if &b[i] == place || &b[i] == &got[:1][0] {
						t.Errorf("%q: the memory is that of what was given", want)
					}
				}
				if string(got) != before {
					t.Errorf("%q: % x has become % x", want, before, got)
				}
			}
		}
	}
}

// TestP3_1ChangesNoValue writes values that share their lists, with values behind the ends of these.
func TestP3_1ChangesNoValue(t *testing.T) {
	items := []api.Value{num(-1), long("-1"), text("a"), {}}
	shared := tuple(items[:3]...)
	v := cons("a", shared, tuple(shared, shared), tuple(items[1:3]...))
	before := code.Value(nil, v)
	if len(before) == 0 || !bytes.Equal(before, code.Value(nil, v)) || !same(tuple(items...), tuple(num(-1), long("-1"), text("a"), api.Value{})) {
		t.Errorf("% x: the value is %v then", before, v)
	}
}
