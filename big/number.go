package big

import (
	"strconv"
	"strings"

	"corollary/api"
)

// number is a sign and a magnitude. A 0 is never negative, so that each number has one form.
type number struct {
	negative  bool
	magnitude []uint32
}

// signed is a number of a sign and a magnitude.
func signed(negative bool, magnitude []uint32) number {
	return number{negative && len(magnitude) > 0, magnitude}
}

// read is the number of a text.
func read(s string) (number, api.Errno) {
	if e := Check(s); e != api.OK {
		return number{}, e
	}
	digits := strings.TrimPrefix(s, "-")
	var parts []uint32
	for end := len(digits); end > 0; end -= partDigits {
		part := uint32(0)
		for _, digit := range digits[max(0, end-partDigits):end] {
			part = part*10 + uint32(digit-'0')
		}
		parts = append(parts, part)
	}
	return signed(len(digits) < len(s), trimmed(parts)), api.OK
}

// text is a number's text.
func (x number) text() string {
	if x.isZero() {
		return "0"
	}
	var b strings.Builder
	if x.negative {
		b.WriteByte('-')
	}
	for i, part := range fromEnd(x.magnitude) {
		digits := strconv.FormatUint(uint64(part), 10)
		if i < len(x.magnitude)-1 { // only the first part goes without its leading zeros
			b.WriteString(strings.Repeat("0", partDigits-len(digits)))
		}
		b.WriteString(digits)
	}
	return b.String()
}

func (x number) isZero() bool { return len(x.magnitude) == 0 }

func (x number) opposite() number { return signed(!x.negative, x.magnitude) }

// compare is -1, 0 or 1: x is below, equal to, above y.
func (x number) compare(y number) int {
	switch {
	case x.negative && y.negative:
		return compareParts(y.magnitude, x.magnitude)
	case x.negative:
		return -1
	case y.negative:
		return 1
	}
	return compareParts(x.magnitude, y.magnitude)
}

func (x number) plus(y number) number {
	if x.negative == y.negative {
		return signed(x.negative, addParts(x.magnitude, y.magnitude))
	}
	if compareParts(x.magnitude, y.magnitude) < 0 { // the sign is that of the larger magnitude
		x, y = y, x
	}
	return signed(x.negative, subtractParts(x.magnitude, y.magnitude))
}

func (x number) minus(y number) number { return x.plus(y.opposite()) }

func (x number) times(y number) number {
	return signed(x.negative != y.negative, multiplyParts(x.magnitude, y.magnitude))
}

// over is the quotient, truncated towards 0; y is not 0.
func (x number) over(y number) number {
	return signed(x.negative != y.negative, divideParts(x.magnitude, y.magnitude))
}

// rest is what x is more than y times their quotient; y is not 0.
func (x number) rest(y number) number { return x.minus(x.over(y).times(y)) }
