package big

import (
	"cmp"
	"iter"
)

// A magnitude is a list of parts, each of partDigits digits, the least one first; its last part is
// not 0, so 0 has no parts. Two parts and a carry fit into 32 bits, their product into 64.
const (
	partDigits = 9
	partBase   = 1_000_000_000
)

// fromEnd visits the parts with their places, the most significant one first.
func fromEnd(parts []uint32) iter.Seq2[int, uint32] {
	return func(yield func(int, uint32) bool) {
		for i := len(parts) - 1; i >= 0; i-- {
			if !yield(i, parts[i]) {
				return
			}
		}
	}
}

// trimmed cuts the zeros off at the end, with their capacity: nothing that is appended later can
// reach the memory behind a magnitude.
func trimmed(parts []uint32) []uint32 {
	length := 0
	for i, part := range fromEnd(parts) {
		if part != 0 {
			length = i + 1
			break
		}
	}
	return parts[:length:length]
}

// compareParts is -1, 0 or 1: a is below, equal to, above b.
func compareParts(a, b []uint32) int {
	if len(a) != len(b) {
		return cmp.Compare(len(a), len(b))
	}
	for i, part := range fromEnd(a) {
		if part != b[i] {
			return cmp.Compare(part, b[i])
		}
	}
	return 0
}

func addParts(a, b []uint32) []uint32 {
	if len(a) < len(b) {
		a, b = b, a
	}
	sum := make([]uint32, 0, len(a)+1)
	carry := uint32(0)
	for i, part := range a {
		carry += part
		if i < len(b) {
			carry += b[i]
		}
		sum = append(sum, carry%partBase)
		carry /= partBase
	}
	return trimmed(append(sum, carry))
}

// subtractParts is a - b; a is not below b.
func subtractParts(a, b []uint32) []uint32 {
	difference := make([]uint32, 0, len(a))
	borrow := uint32(0)
	for i, part := range a {
		part += partBase - borrow
		if i < len(b) {
			part -= b[i]
		}
		difference = append(difference, part%partBase)
		borrow = 1 - part/partBase
	}
	return trimmed(difference)
}

func multiplyParts(a, b []uint32) []uint32 {
	product := make([]uint32, len(a)+len(b))
	for i, x := range a {
		carry := uint64(0)
		for j, y := range b {
			carry += uint64(x)*uint64(y) + uint64(product[i+j])
			product[i+j] = uint32(carry % partBase)
			carry /= partBase
		}
		product[i+len(b)] = uint32(carry)
	}
	return trimmed(product)
}

// divideParts is the quotient of a by b, without the rest; b is not 0.
func divideParts(a, b []uint32) []uint32 {
	// The quotient stays the same when both are scaled; with a first part of at least half the
	// base in b, the guesses of divideOnce are at most 2 too high.
	scale := []uint32{partBase / (b[len(b)-1] + 1)}
	a, b = multiplyParts(a, scale), multiplyParts(b, scale)
	quotient := make([]uint32, len(a))
	var rest []uint32
	for i, part := range fromEnd(a) {
		rest = trimmed(append([]uint32{part}, rest...))
		quotient[i], rest = divideOnce(rest, b)
	}
	return trimmed(quotient)
}

// divideOnce is the quotient of a by b, and the rest, for a quotient of one part; b is scaled.
func divideOnce(a, b []uint32) (uint32, []uint32) {
	last := len(b) - 1
	if len(a) <= last {
		return 0, a
	}
	first := uint64(a[last])
	if len(a) > len(b) {
		first += uint64(a[len(b)]) * partBase
	}
	guess := uint32(min(first/uint64(b[last]), partBase-1))
	multiple := multiplyParts(b, []uint32{guess})
	for compareParts(multiple, a) > 0 {
		guess--
		multiple = subtractParts(multiple, b)
	}
	return guess, subtractParts(a, multiple)
}
