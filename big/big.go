// Package big is layer 1: whole numbers of any length; see shared/doc/01-big.md.
package big

import (
	"strconv"
	"strings"

	"corollary/api"
)

// Check says whether a text is a number.
func Check(s string) api.Errno {
	digits := strings.TrimPrefix(s, "-")
	if digits == "" || digits[0] == '0' && s != "0" {
		return api.ErrForm
	}
	for _, digit := range digits {
		if digit < '0' || digit > '9' {
			return api.ErrForm
		}
	}
	if len(digits) > api.MaxDigits {
		return api.ErrOver
	}
	return api.OK
}

// Of is a number's text.
func Of(n int64) string { return strconv.FormatInt(n, 10) }

// Int is the number of a text.
func Int(s string) (int64, api.Errno) {
	if e := Check(s); e != api.OK {
		return 0, e
	}
	n, err := strconv.ParseInt(s, 10, 64)
	if err != nil { // the form is checked, so only the range is left to be wrong
		return 0, api.ErrOver
	}
	return n, api.OK
}

// Neg is the number with the other sign.
func Neg(a string) (string, api.Errno) {
	x, e := read(a)
	if e != api.OK {
		return "", e
	}
	return x.opposite().text(), api.OK
}

// Cmp holds two numbers against each other.
func Cmp(a, b string) (int, api.Errno) {
	x, y, e := readBoth(a, b)
	if e != api.OK {
		return 0, e
	}
	return x.compare(y), api.OK
}

// Add is the sum.
func Add(a, b string) (string, api.Errno) { return combine(a, b, number.plus) }

// Sub is the difference.
func Sub(a, b string) (string, api.Errno) { return combine(a, b, number.minus) }

// Mul is the product.
func Mul(a, b string) (string, api.Errno) { return combine(a, b, number.times) }

// Div is what a division comes to, towards 0.
func Div(a, b string) (string, api.Errno) { return divide(a, b, number.over) }

// Mod is what is left.
func Mod(a, b string) (string, api.Errno) { return divide(a, b, number.rest) }

// combine is the text of what an operation makes of two numbers, if it is not too long.
func combine(a, b string, operate func(x, y number) number) (string, api.Errno) {
	x, y, e := readBoth(a, b)
	if e != api.OK {
		return "", e
	}
	s := operate(x, y).text()
	if e := Check(s); e != api.OK {
		return "", e
	}
	return s, api.OK
}

// divide is the text of what a division makes of two numbers, which is never longer than the first.
func divide(a, b string, operate func(x, y number) number) (string, api.Errno) {
	x, y, e := readBoth(a, b)
	if e != api.OK {
		return "", e
	}
	if y.isZero() {
		return "", api.ErrZero
	}
	return operate(x, y).text(), api.OK
}

// readBoth are the numbers of two texts; an error of the first comes before one of the second.
func readBoth(a, b string) (x, y number, e api.Errno) {
	if x, e = read(a); e != api.OK {
		return number{}, number{}, e
	}
	if y, e = read(b); e != api.OK {
		return number{}, number{}, e
	}
	return x, y, api.OK
}
