package code

import (
	"math/bits"
	"strings"

	"corollary/api"
)

// appendNum writes a number.
func appendNum(b []byte, n int64) []byte {
	if n >= 0 {
		return appendOwn(b, sign, uint64(n))
	}
	start := len(b)
	b = appendOwn(b, sign, uint64(-1-n))
	complement(b[start:])
	return b
}

// appendCount writes a count that is known to be one.
func appendCount(b []byte, n int) []byte { return appendOwn(b, 0, uint64(n)) }

// appendOwn writes how many own bytes a number has, added to a base, and these.
func appendOwn(b []byte, base byte, n uint64) []byte {
	size := (bits.Len64(n) + 7) / 8
	b = append(b, base+byte(size))
	for i := size - 1; i >= 0; i-- {
		b = append(b, byte(n>>(8*i)))
	}
	return b
}

// appendStr writes a text. What is put after each 00 is above the second 00 of the end, so that a text is before what continues it.
func appendStr(b []byte, s string) []byte {
	return append(b, strings.ReplaceAll(s, "\x00", "\x00\xff")+"\x00\x00"...)
}

// appendFlag writes a truth value.
func appendFlag(b []byte, v bool) []byte {
	if v {
		return append(b, 1)
	}
	return append(b, 0)
}

func complement(b []byte) {
	for i := range b {
		b[i] ^= complemented
	}
}

// valid is a value that is known to be valid, so that nothing is checked again on the way down.
type valid api.Value

// appendTo writes the value.
func (v valid) appendTo(b []byte) []byte { return formOf(v.Kind).write(v, append(b, v.Kind)) }

func (v valid) appendBool(b []byte) []byte { return appendFlag(b, v.N == 1) }

func (v valid) appendInt(b []byte) []byte { return appendNum(b, v.N) }

func (v valid) appendBig(b []byte) []byte {
	digits, below := strings.CutPrefix(v.S, "-")
	start := len(b)
	b = append(appendCount(append(b, sign), len(digits)), digits...)
	if below {
		complement(b[start:])
	}
	return b
}

func (v valid) appendText(b []byte) []byte { return appendStr(b, v.S) }

func (v valid) appendTuple(b []byte) []byte {
	for _, item := range v.L {
		b = valid(item).appendTo(appendFlag(b, true))
	}
	return appendFlag(b, false)
}

func (v valid) appendCons(b []byte) []byte { return v.appendTuple(appendStr(b, v.S)) }
