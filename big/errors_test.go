package big_test

import (
	"strings"
	"testing"

	"corollary/api"
	tested "corollary/big"
)

// call is one of the calls on two numbers; what it returns beside the error is none where it fails.
type call struct {
	name string
	do   func(a, b string) (none bool, e api.Errno)
}

func textCall(name string, operate operation) call {
	return call{name, func(a, b string) (bool, api.Errno) {
		s, e := operate(a, b)
		return s == "", e
	}}
}

func compareCall() call {
	return call{"Cmp", func(a, b string) (bool, api.Errno) {
		n, e := tested.Cmp(a, b)
		return n == 0, e
	}}
}

func calls() []call {
	return []call{
		textCall("Add", tested.Add), textCall("Sub", tested.Sub), textCall("Mul", tested.Mul),
		textCall("Div", tested.Div), textCall("Mod", tested.Mod), compareCall(),
	}
}

func (c call) refuses(t *testing.T, a, b string, want api.Errno) {
	t.Helper()
	if none, e := c.do(a, b); e != want || !none {
		t.Errorf("%s(%q, %q): %v, not %v; without a result: %v", c.name, a, b, e, want, none)
	}
}

func TestErrorsOfOneNumber(t *testing.T) {
	refuse := func(s string, want api.Errno) {
		if r, e := tested.Neg(s); r != "" || e != want {
			t.Errorf("Neg(%q): %q, %v", s, r, e)
		}
		if n, e := tested.Int(s); n != 0 || e != want {
			t.Errorf("Int(%q): %d, %v", s, n, e)
		}
	}
	for _, s := range wrongTexts() {
		refuse(s, api.ErrForm)
	}
	for _, s := range longTexts() {
		refuse(s, api.ErrOver)
	}
}

func TestErrorsOfIntPastItsRange(t *testing.T) {
	for _, s := range []string{"9223372036854775808", "-9223372036854775809", "18446744073709551616", "10000000000000000000", nines(200), "-" + power(199)} {
		if n, e := tested.Int(s); n != 0 || e != api.ErrOver {
			t.Errorf("Int(%s): %d, %v", s, n, e)
		}
	}
}

func TestErrorsOfEitherNumber(t *testing.T) {
	for _, c := range calls() {
		for _, good := range []string{"1", "-7", nines(200)} {
			for _, s := range wrongTexts() {
				c.refuses(t, s, good, api.ErrForm)
				c.refuses(t, good, s, api.ErrForm)
			}
			for _, s := range longTexts() {
				c.refuses(t, s, good, api.ErrOver)
				c.refuses(t, good, s, api.ErrOver)
			}
		}
	}
}

func TestErrorsOfTheFirstNumberComeFirst(t *testing.T) {
	for _, c := range calls() {
		c.refuses(t, "01", nines(201), api.ErrForm)
		c.refuses(t, nines(201), "01", api.ErrOver)
		c.refuses(t, "-0", "-0", api.ErrForm)
		c.refuses(t, nines(201), nines(201), api.ErrOver)
	}
}

func TestErrorsOfTheFormComeBeforeTheLength(t *testing.T) {
	for _, c := range calls() {
		c.refuses(t, nines(201)+"x", "1", api.ErrForm)
		c.refuses(t, "1", "0"+nines(201), api.ErrForm)
		c.refuses(t, strings.Repeat("0", 300), nines(201), api.ErrForm)
	}
}

func TestErrorsOfNumbersComeBeforeAZeroDivisor(t *testing.T) {
	for _, c := range []call{textCall("Div", tested.Div), textCall("Mod", tested.Mod)} {
		c.refuses(t, "01", "0", api.ErrForm)
		c.refuses(t, nines(201), "0", api.ErrOver)
		c.refuses(t, "1", "-0", api.ErrForm)
		c.refuses(t, "1", "00", api.ErrForm)
		c.refuses(t, nines(200), "0", api.ErrZero)
		c.refuses(t, "-1", "0", api.ErrZero)
	}
}

func TestErrorsOfNumbersComeBeforeALongResult(t *testing.T) {
	for _, c := range []call{textCall("Add", tested.Add), textCall("Sub", tested.Sub), textCall("Mul", tested.Mul)} {
		c.refuses(t, nines(200), "+"+nines(199), api.ErrForm)
		c.refuses(t, nines(300), "x", api.ErrOver)
	}
}

// TestAnyTextsEnd passes all kinds of texts, in pairs, to every call: each ends, with a number in its one form, or with an error.
func TestAnyTextsEnd(t *testing.T) {
	texts := append(append(wrongTexts(), longTexts()...), edges()...)
	for _, a := range texts {
		for _, b := range texts {
			for _, operate := range []operation{tested.Add, tested.Sub, tested.Mul, tested.Div, tested.Mod} {
				s, e := operate(a, b)
				if e == api.OK && tested.Check(s) != api.OK || e != api.OK && s != "" {
					t.Fatalf("%q, %q: %q, %v", a, b, s, e)
				}
			}
			if n, e := tested.Cmp(a, b); n < -1 || n > 1 || e != api.OK && n != 0 {
				t.Fatalf("Cmp(%q, %q): %d, %v", a, b, n, e)
			}
		}
	}
}
