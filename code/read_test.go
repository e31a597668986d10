package code_test

import (
	"math"
	"reflect"
	"strings"
	"testing"

	"corollary/api"
	"corollary/code"
)

func TestP3_2ReadsWhatIsWritten(t *testing.T) {
	for name, l := range families() {
		for i, x := range l {
			if r := code.NewReader(x.bytes); !x.reads(r) || !r.Done() {
				t.Errorf("%s %d: % x", name, i, x.bytes)
			}
		}
	}
}

// TestP3_2ReadsOneAfterAnother reads a sequence of all that may be requested, with how many bytes are left.
func TestP3_2ReadsOneAfterAnother(t *testing.T) {
	v := cons("a", tuple(num(-300), long("-10")), text("\x00"))
	b := code.Value(code.Flag(code.Str(code.Num(code.Count(nil, 300), math.MinInt64), "a\x00"), true), v)
	r := code.NewReader(b)
	left := len(b)
	for i, step := range []struct {
		size int
		ok   bool
	}{{3, r.Count(300) == 300}, {9, r.Num() == math.MinInt64}, {5, r.Str(2) == "a\x00"}, {1, r.Flag()}, {len(code.Value(nil, v)), same(r.Value(), v)}} {
		left -= step.size
		if !step.ok {
			t.Errorf("step %d", i)
		}
	}
	if left != 0 || !r.Done() {
		t.Errorf("left: %d, Done: %t", left, r.Done())
	}
}

func TestP3_2ReadsManyValues(t *testing.T) {
	g := newGenerator(1)
	for range 5000 {
		v := g.value(5)
		r := code.NewReader(code.Value(nil, v))
		if w := r.Value(); !same(v, w) || !r.Done() {
			t.Fatalf("%v: %v", v, w)
		}
	}
}

func TestP3_2Count(t *testing.T) {
	for _, x := range []struct {
		digits     string
		most, want int
		ok         bool
	}{
		{"00", 0, 0, true}, {"00", 9, 0, true}, {"00", -1, 0, false}, {"00", math.MinInt, 0, false}, {"01 05", 5, 5, true}, {"01 05", 4, 0, false}, {"01 05", 0, 0, false}, {"01 05", -1, 0, false}, {"01 05", math.MinInt, 0, false}, {"01 ff", 255, 255, true}, {"01 ff", 254, 0, false},
		{"02 01 00", 256, 256, true}, {"02 01 00", 255, 0, false}, {"04 7f ff ff ff", math.MaxInt32, math.MaxInt32, true}, {"04 7f ff ff ff", math.MaxInt, math.MaxInt32, true}, {"04 7f ff ff ff", math.MaxInt32 - 1, 0, false},
		{"04 80 00 00 00", math.MaxInt, 0, false}, {"04 ff ff ff ff", math.MaxInt, 0, false}, {"05 01 00 00 00 00", math.MaxInt, 0, false}, {"08 7f ff ff ff ff ff ff ff", math.MaxInt, 0, false}, {"08 ff ff ff ff ff ff ff ff", math.MaxInt, 0, false}, {"08 ff ff ff ff ff ff ff ff", -1, 0, false},
	} {
		r := code.NewReader(bytesOf(t, x.digits))
		if n := r.Count(x.most); n != x.want || r.OK() != x.ok || r.Done() != x.ok || r.Left() != 0 {
			t.Errorf("Count(%d) of %s: %d, OK: %t", x.most, x.digits, n, r.OK())
		}
	}
}

func TestP3_2Str(t *testing.T) {
	for _, x := range []struct {
		digits string
		most   int
		want   string
		ok     bool
	}{
		{"00 00", 0, "", true}, {"00 00", 9, "", true}, {"00 00", -1, "", false}, {"00 00", math.MinInt, "", false}, {"61 62 00 00", 2, "ab", true}, {"61 62 00 00", math.MaxInt, "ab", true}, {"61 62 00 00", 1, "", false}, {"61 62 00 00", 0, "", false}, {"61 62 00 00", -1, "", false},
		{"00 ff 00 00", 1, "\x00", true}, {"00 ff 00 00", 0, "", false}, {"00 ff 00 ff 00 00", 2, "\x00\x00", true}, {"00 ff 00 ff 00 00", 1, "", false}, {"ff 00 00", 1, "\xff", true}, {"00 ff ff 00 00", 2, "\x00\xff", true},
		{strings.Repeat("61", 100000) + "00 00", 100000, strings.Repeat("a", 100000), true}, {strings.Repeat("61", 100000) + "00 00", 99999, "", false},
	} {
		r := code.NewReader(bytesOf(t, x.digits))
		if s := r.Str(x.most); s != x.want || r.OK() != x.ok || r.Done() != x.ok || r.Left() != 0 {
			t.Errorf("Str(%d) of %.40s: %.40q, OK: %t", x.most, x.digits, s, r.OK())
		}
	}
}

// wrong are bytes, in hexadecimal digits, that cannot be read, by what is requested.
func wrong() map[string][]string {
	return map[string][]string{
		"Num":   {"81 00", "7e ff", "82 00 01", "7d ff fe", "88 00 ff ff ff ff ff ff ff", "77 ff 00 00 00 00 00 00 00", "88 80 00 00 00 00 00 00 00", "88 ff ff ff ff ff ff ff ff", "77 7f ff ff ff ff ff ff ff", "77 00 00 00 00 00 00 00 00", "89 01 00 00 00 00 00 00 00 00", "76 fe 00 00 00 00 00 00 00 00", "89 00 01 00 00 00 00 00 00 00", "ff" + strings.Repeat("01", 127), "00" + strings.Repeat("fe", 127), "00", "ff"},
		"Count": {"01 00", "02 00 01", "02 00 00", "04 00 ff ff ff", "05 00 7f ff ff ff", "05 01 00 00 00 00", "04 80 00 00 00", "08 01 00 00 00 00 00 00 00", "09 01 00 00 00 00 00 00 00 00", "ff" + strings.Repeat("01", 255), "80", "81 01"},
		"Str":   {"00 01", "00 fe 00 00", "61 00 61 00 00", "00 ff 00 01 00 00", "00 80", "61 00 7f"},
		"Flag":  {"02", "ff", "80", "7f", "31"},
		"Value": wrongValues(),
	}
}

// wrongValues are bytes, in hexadecimal digits, that are not those of a valid value, whatever follows them.
func wrongValues() []string {
	l := []string{
		"00", "00 00", "07", "07 00", "80", "ff", "fa ff", "01 02", "01 ff", "02 81 00", "02 7e ff", "02 89 01 00 00 00 00 00 00 00 00", "02 88 80 00 00 00 00 00 00 00",
		"03 80 00", "03 7f ff", "03 81 01 01 31", "03 7e fe fe ce", "03 00 fe fe ce", "03 ff 01 01 31", "03 31", "03 80 01 00", "03 80 02 00 01 31", "03 7f fd ff fe ce", "03 80 01 01 2f", "03 80 01 01 3a", "03 80 01 01 61", "03 80 01 01 b1", "03 7f fe fe d0", "03 7f fe fe c5", "03 7f fe fe 31", "03 7f 01 01 31",
		"03 80 01 02 30 31", "03 80 01 02 30 30", "03 7f fe fe cf", "03 7f fe fd cf ce", "03 80 01 02 2d 35", "03 7f fe fd d2 ca", "03 80 01 01 2d", "03 80 01 02 31 00", "03 80 01 c9" + strings.Repeat("31", 201), "03 7f fe 36" + strings.Repeat("ce", 201), "03 80 02 01 00" + strings.Repeat("31", 256), "03 80 04 7f ff ff ff" + strings.Repeat("31", 300),
		"04 00 01", "04 61 00 02", "04" + strings.Repeat("61", 4097) + "00 00", "04" + strings.Repeat("00 ff", 4097) + "00 00",
		"05 02", "05 ff", "05 01 00", "05 01 07", "05 01 01 01 00", "05 01 01 01 02", "05 01 05 00 00", "05 01 01 01 01 02 81 00 00", "05" + strings.Repeat("01 02 80", 17) + "00", "05" + strings.Repeat("01 02 80", 1000) + "00",
		"06 61 00 00 02", "06 61 00 01 00", "06 61 00 00 01 00", "06 61 00 00 01 01 02 00", "06 61 00 00" + strings.Repeat("01 01 01", 9) + "00", "06 61 00 00 01 05 01 01 01 00 00", "06 61 00 00 01 06 41 00 00 00 00",
		strings.Repeat("06 73 00 00 01", 64) + "02 80" + strings.Repeat("00", 64), strings.Repeat("06 73 00 00 01", 64) + "05 00" + strings.Repeat("00", 64), strings.Repeat("05 01", 1<<20), strings.Repeat("06 61 00 00 01", 1<<18) + "01 01" + strings.Repeat("00", 1<<18),
	}
	const digits = "0123456789abcdef"
	for _, name := range wrongNames() {
		var b strings.Builder
		for _, c := range code.Str(nil, name) {
			b.WriteByte(digits[c>>4])
			b.WriteByte(digits[c&15])
		}
		l = append(l, "06"+b.String()+"00", "06"+b.String()+"01 02 80 00")
	}
	return l
}

// checkFailed requires that a reader has failed, and that whatever is requested then is zero.
func checkFailed(t *testing.T, what string, r *code.Reader) {
	t.Helper()
	for name, request := range requests() {
		if r.OK() || r.Done() || r.Left() != 0 {
			t.Errorf("%.60s: OK %t, Done %t, Left %d", what, r.OK(), r.Done(), r.Left())
		}
		if !request(r) {
			t.Errorf("%.60s: not zero: %s, after the failure", what, name)
		}
	}
}

func TestP3_2FailsForOtherForms(t *testing.T) {
	for name, l := range wrong() {
		for _, digits := range l {
			b := bytesOf(t, digits)
			for _, follower := range followers() {
				r := code.NewReader(joined(b, follower))
				if !requests()[name](r) {
					t.Errorf("%s of %.60s: not zero", name, digits)
				}
				checkFailed(t, name+" of "+digits, r)
			}
		}
	}
}

// TestP3_2FailsPastTheEnd cuts off the bytes of everything at each place.
func TestP3_2FailsPastTheEnd(t *testing.T) {
	for name, l := range families() {
		for _, x := range l {
			for end := range x.bytes {
				if end > 300 && end < len(x.bytes)-300 {
					continue // nothing ends there that does not end before, too
				}
				r := code.NewReader(x.bytes[:end])
				if x.reads(r) {
					t.Errorf("%s % x: the first %d bytes are read", name, x.bytes, end)
				}
				if r.OK() || r.Done() || r.Left() != 0 {
					t.Errorf("%s % x: the first %d bytes: OK %t, Done %t, Left %d", name, x.bytes, end, r.OK(), r.Done(), r.Left())
				}
			}
		}
	}
	for name, request := range requests() {
		r := code.NewReader(nil)
		if !request(r) {
			t.Errorf("%s of nothing: not zero", name)
		}
		checkFailed(t, name+" of nothing", r)
	}
}

// TestP3_2RemainsFailed requests what is there behind what is not.
func TestP3_2RemainsFailed(t *testing.T) {
	for name, l := range families() {
		for _, x := range l {
			for request, isZero := range requests() {
				r := code.NewReader(joined([]byte("\x02"), string(x.bytes)))
				if r.Flag() {
					t.Error("02 is read as true")
				}
				if !isZero(r) {
					t.Errorf("%s % x, after a failure: %s is not zero", name, x.bytes, request)
				}
				if r.OK() || r.Done() || r.Left() != 0 {
					t.Errorf("%s % x, after a failure and %s: OK %t, Done %t, Left %d", name, x.bytes, request, r.OK(), r.Done(), r.Left())
				}
			}
		}
	}
}

func TestP3_2KeepsNothingOfTheArgument(t *testing.T) {
	v := tuple(num(-5), text("abc"), cons("nil"))
	b := code.Value(code.Str(nil, "abc"), v)
	before := string(b)
	r := code.NewReader(b)
	if r.Str(3) != "abc" || string(b) != before {
		t.Error("Str")
	}
	clear(b)
	if w := r.Value(); !same(v, w) || !r.Done() {
		t.Errorf("%v, after the bytes were changed", w)
	}
	if strings.Trim(string(b), "\x00") != "" {
		t.Errorf("the bytes have become % x", b)
	}
}

func TestP3_2ReadsNoFurtherThanTheLength(t *testing.T) {
	b := []byte("ab\x00\x00")
	if r := code.NewReader(b[:3]); r.Str(9) != "" || r.OK() {
		t.Error("Str reads behind the end")
	}
	if r := code.NewReader(b[:0]); r.Left() != 0 || !r.Done() {
		t.Error("something is left behind the end")
	}
}

func TestP3_2ReadersDoNotAffectOneAnother(t *testing.T) {
	b := code.Num(code.Num(nil, 1), 2)
	one, other := code.NewReader(b), code.NewReader(b)
	if one.Num() != 1 || one.Num() != 2 || !one.Done() || one.Flag() || one.OK() {
		t.Error("the first reader")
	}
	if other.Left() != 4 || !other.OK() || other.Num() != 1 || other.Num() != 2 || !other.Done() {
		t.Error("the second reader")
	}
}

// TestP3_2NewMemory reads a value with many equal lists, each of which must have memory of its own.
func TestP3_2NewMemory(t *testing.T) {
	pair := tuple(num(1), num(2))
	v := tuple(pair, pair, cons("a", pair, pair, pair), tuple(pair, pair, pair))
	b := code.Value(nil, v)
	r := code.NewReader(append(b, b...))
	first, second := r.Value(), r.Value()
	found := map[*api.Value]bool{}
	var visit func(l []api.Value)
	visit = func(l []api.Value) {
		for i := range l[:cap(l)] {
			if found[&l[:cap(l)][i]] {
				t.Errorf("the place of %v is there twice", l[:cap(l)][i])
			}
			found[&l[:cap(l)][i]] = true
		}
		for _, item := range l {
			visit(item.L)
		}
	}
	visit([]api.Value{first, second})
	first.L[0].L[0] = text("changed")
	if !same(second, v) || len(found) < 40 {
		t.Errorf("%v, in %d places", second, len(found))
	}
}

func TestP3_3Left(t *testing.T) {
	b := []byte("\x81\x05\x01\x05\x00\x00\x01\x01\x01rest")
	r := code.NewReader(b)
	for i, x := range []struct {
		read func() bool
		left int
	}{
		{func() bool { return true }, 13}, {func() bool { return r.Num() == 5 }, 11}, {func() bool { return r.Count(5) == 5 }, 9}, {func() bool { return r.Str(0) == "" }, 7}, {func() bool { return r.Flag() }, 6},
		{func() bool { return same(r.Value(), boolean(1)) }, 4},
	} {
		if !x.read() || r.Left() != x.left || !r.OK() || r.Done() {
			t.Errorf("step %d: Left %d, OK %t, Done %t", i, r.Left(), r.OK(), r.Done())
		}
	}
	if r.Flag() {
		t.Error("r is read as true")
	}
	checkFailed(t, "rest", r)
}

func TestP3_3AtTheEnd(t *testing.T) {
	for _, b := range [][]byte{nil, {}} {
		if r := code.NewReader(b); r.Left() != 0 || !r.OK() || !r.Done() {
			t.Errorf("nothing: Left %d, OK %t, Done %t", r.Left(), r.OK(), r.Done())
		}
	}
	r := code.NewReader([]byte{1})
	if r.Left() != 1 || !r.OK() || r.Done() {
		t.Errorf("one byte: Left %d, OK %t, Done %t", r.Left(), r.OK(), r.Done())
	}
	if !r.Flag() || r.Left() != 0 || !r.OK() || !r.Done() {
		t.Errorf("one byte that was read: Left %d, OK %t, Done %t", r.Left(), r.OK(), r.Done())
	}
	if r.Flag() {
		t.Error("true behind the end")
	}
	checkFailed(t, "behind the end", r)
}

func TestP3_3OfNil(t *testing.T) { checkFailed(t, "nil", nil) }

// TestAnyBytesEnd requests anything of any bytes: nothing panics, and what was read can be written as it was.
func TestAnyBytesEnd(t *testing.T) {
	g := newGenerator(2)
	for range 100000 {
		b := make([]byte, g.IntN(20))
		for i := range b {
			b[i] = pick(g, 0, 0, 1, 1, 2, 3, 4, 5, 6, 0x30, 0x31, 0x61, 0x7e, 0x7f, 0x80, 0x81, 0xfe, 0xff, byte(g.IntN(256)))
		}
		r := code.NewReader(b)
		for range 4 {
			left, before := r.Left(), r.OK()
			name := pick(g, "Num", "Count", "Count(-1)", "Str", "Str(0)", "Flag", "Value")
			zero := requests()[name](r)
			if r.Left() > left || r.OK() && !before || !r.OK() && (r.Left() != 0 || !zero) || r.OK() && r.Left() == left || r.Done() != (r.OK() && r.Left() == 0) {
				t.Fatalf("% x: %s: Left %d, then %d; OK %t, then %t", b, name, left, r.Left(), before, r.OK())
			}
		}
	}
	var unmade code.Reader
	for _, request := range requests() {
		request(&unmade)
	}
	if !reflect.ValueOf(code.NewReader(nil).Value()).IsZero() {
		t.Error("a value of nothing")
	}
}
