package code_test

import (
	"bytes"
	"strings"
	"testing"

	"corollary/api"
	"corollary/code"
	"corollary/value"
)

// checkOrder requires that bytes are before others, whatever follows them.
func checkOrder(t *testing.T, what string, a, b []byte) {
	t.Helper()
	l := followers()
	for _, x := range []string{l[0], l[1], l[len(l)-1]} {
		for _, y := range []string{l[0], l[1], l[len(l)-1]} {
			if bytes.Compare(joined(a, x), joined(b, y)) != -1 {
				t.Errorf("%s: % x followed by % x is not before % x followed by % x", what, a, x, b, y)
			}
		}
	}
}

func TestP3_4Order(t *testing.T) {
	for name, l := range families() {
		for i, x := range l {
			for _, y := range l[i+1:] {
				checkOrder(t, name, x.bytes, y.bytes)
			}
		}
	}
}

func TestP3_4OrderOfManyValues(t *testing.T) {
	g := newGenerator(4)
	equal := 0
	for range 30000 {
		v, w := g.value(3), g.value(3)
		a, b := code.Value(nil, v), code.Value(nil, w)
		switch value.Cmp(v, w) {
		case -1:
			checkOrder(t, "values", a, b)
		case 1:
			checkOrder(t, "values", b, a)
		default:
			equal++
			if !bytes.Equal(a, b) {
				t.Errorf("%v: % x, and % x", v, a, b)
			}
		}
	}
	if equal < 100 {
		t.Errorf("only %d pairs were equal", equal)
	}
}

// bytesOfRow are the bytes of the values of a row, one after another.
func bytesOfRow(row []api.Value) []byte {
	var b []byte
	for _, v := range row {
		b = code.Value(b, v)
	}
	return b
}

func TestP3_4OrderOfRows(t *testing.T) {
	g := newGenerator(5)
	for range 30000 {
		v, w := g.values(g.IntN(4), 2), g.values(g.IntN(4), 2)
		a, b := bytesOfRow(v), bytesOfRow(w)
		want := value.CmpRows(v, w)
		if order := bytes.Compare(a, b); order != want {
			t.Errorf("%v, %v: % x, % x: %d, not %d", v, w, a, b, order, want)
		}
		if n := min(len(v), len(w)); want == -1 && value.CmpRows(v[:n], w[:n]) != 0 {
			checkOrder(t, "rows", a, b)
		}
	}
	for _, x := range [][2][]api.Value{
		{{text("a"), text("b")}, {text("a\x00"), text("a")}}, {{text(""), num(9)}, {text("\x00"), num(1)}}, {{tuple(), num(9)}, {tuple(num(1), num(1)), num(1)}}, {{cons("a"), cons("z")}, {cons("a", num(0)), num(0)}}, {{cons("a", num(9))}, {cons("aa")}}, {{num(-300), num(1)}, {num(-299), num(0)}},
	} {
		checkOrder(t, "rows", bytesOfRow(x[0]), bytesOfRow(x[1]))
	}
}

func TestP3_5NoneBeginsWithAnother(t *testing.T) {
	for name, l := range families() {
		for i, x := range l {
			for k, y := range l {
				if i != k && bytes.HasPrefix(x.bytes, y.bytes) {
					t.Errorf("%s: % x begins with % x", name, x.bytes, y.bytes)
				}
			}
		}
	}
}

// TestP3_5NoPrefixIsRead cuts off the bytes of values at each place.
func TestP3_5NoPrefixIsRead(t *testing.T) {
	g := newGenerator(6)
	for range 3000 {
		b := code.Value(nil, g.value(4))
		for end := range b {
			r := code.NewReader(b[:end])
			if v := r.Value(); r.OK() || v.Kind != 0 {
				t.Fatalf("% x of % x: %v", b[:end], b, v)
			}
		}
	}
}

// checkAmongOthers reads bytes as a value; if there is one, its bytes are those that were read, and their order among others is its own.
func checkAmongOthers(t *testing.T, b []byte, others []api.Value) bool {
	t.Helper()
	r := code.NewReader(b)
	v := r.Value()
	if !r.OK() {
		return false
	}
	read := b[:len(b)-r.Left()]
	if value.Check(v) != api.OK || !bytes.Equal(code.Value(nil, v), read) {
		t.Errorf("% x is read as %v, whose bytes are % x", read, v, code.Value(nil, v))
	}
	for _, w := range others {
		if bytes.Compare(read, code.Value(nil, w)) != value.Cmp(v, w) {
			t.Errorf("% x, % x: not ordered as %v, %v", read, code.Value(nil, w), v, w)
		}
	}
	return true
}

// TestP3_6ShortBytes tries all short sequences of bytes that mean something to one Kind or another.
func TestP3_6ShortBytes(t *testing.T) {
	others := []api.Value{boolean(1), num(-1), num(0), long("-1"), long("0"), text(""), text("\x00"), tuple(), cons("a")}
	const alphabet = "\x00\x01\x02\x03\x04\x05\x06\x07-01az~\x7f\x80\x81\x82\xce\xcf\xd2\xfe\xff"
	read := 0
	var try func(b []byte)
	try = func(b []byte) {
		if checkAmongOthers(t, b, others) {
			read++
		}
		if len(b) < 4 {
			for i := range len(alphabet) {
				try(joined(b, alphabet[i:i+1]))
			}
		}
	}
	try(nil)
	if read < 1000 {
		t.Errorf("only %d were read", read)
	}
}

// TestP3_6ChangedBytes changes the bytes of values in one place, and reads them.
func TestP3_6ChangedBytes(t *testing.T) {
	g := newGenerator(7)
	read := 0
	for range 60000 {
		b := code.Value(nil, g.value(3))
		at := g.IntN(len(b))
		switch g.IntN(3) {
		case 0:
			b[at] = pick(g, 0, 1, 2, 3, 4, 5, 6, 0x30, 0x7f, 0x80, 0xff, b[at]+1, b[at]-1, ^b[at])
		case 1:
			b = append(b[:at], b[at+1:]...)
		default:
			b = joined(b[:at], string(b[at/2:]))
		}
		if checkAmongOthers(t, b, []api.Value{g.value(3), g.value(2), g.value(1)}) {
			read++
		}
	}
	if read < 1000 {
		t.Errorf("only %d were read", read)
	}
}

func complemented(b []byte) []byte {
	other := bytes.Clone(b)
	for i, c := range other {
		other[i] = 255 - c
	}
	return other
}

func TestP3_7ShortNumbers(t *testing.T) {
	for _, n := range numbers() {
		b := code.Num(nil, n)
		if len(b) > 9 || !bytes.Equal(code.Num(nil, -1-n), complemented(b)) {
			t.Errorf("%d: % x, and of -1 minus it % x", n, b, code.Num(nil, -1-n))
		}
	}
}

func TestP3_7ShortCounts(t *testing.T) {
	before := 0
	for _, n := range counts() {
		b := code.Count(nil, n)
		if len(b) > 5 || len(b) < before {
			t.Errorf("%d: % x", n, b)
		}
		before = len(b)
	}
	if len(code.Count(nil, 0)) != 1 || before != 5 {
		t.Errorf("0 has %d bytes, the greatest count %d", len(code.Count(nil, 0)), before)
	}
}

func TestP3_7ShortTexts(t *testing.T) {
	for _, s := range append(texts(), strings.Repeat("\x00ab", 100000)) {
		if b := code.Str(nil, s); len(b) != len(s)+strings.Count(s, "\x00")+2 {
			t.Errorf("%.40q: %d bytes", s, len(b))
		}
	}
}

func TestP3_8WhatFollows(t *testing.T) {
	for name, l := range families() {
		for _, x := range l {
			for _, y := range append(followers(), string(x.bytes), string(l[0].bytes), string(l[len(l)-1].bytes)) {
				r := code.NewReader(joined(x.bytes, y))
				if !x.reads(r) || r.Left() != len(y) || r.Done() != (y == "") {
					t.Errorf("%s: % x, followed by % x: Left %d, OK %t, Done %t", name, x.bytes, y, r.Left(), r.OK(), r.Done())
				}
			}
		}
	}
}
