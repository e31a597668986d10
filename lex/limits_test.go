package lex_test

import (
	"slices"
	"strings"
	"testing"

	"corollary/api"
	"corollary/lex"
)

// TestP5_1NamesAtTheLimit has each part with as many bytes as it may have, and with one more.
func TestP5_1NamesAtTheLimit(t *testing.T) {
	for _, c := range strings.Split("aZ0_", "") {
		most := "n" + strings.Repeat(c, 31)
		checkTokens(t, most, name(most))
		checkTokens(t, most+"."+most, name(most+"."+most))
		checkTokens(t, most+"."+most+"."+most, name(most+"."+most), field(most))
		checkTokens(t, most+".a", name(most+".a"))
		checkTokens(t, "a."+most, name("a."+most))
		checkTokens(t, "."+most, field(most))
		checkTokens(t, "X."+most, variable("X"), field(most))
		checkTokens(t, "V"+most[1:], variable("V"+most[1:]))
		checkTokens(t, most+".not", name(most), sign("."), word("not"))
		checkTokens(t, most+"#"+most+"n", name(most))
		for _, long := range []string{most + c, most + strings.Repeat(c, 32), most + strings.Repeat(c, 5000)} {
			for _, s := range []string{long, long + ".a", "a." + long, most + "." + long, long + "." + most, long + "." + long, long + "(X)", long + ".not", long + ".", long + ".a.b", "." + long, "." + long + ".a", "V" + long[1:], "V" + long[1:] + ".a"} {
				checkRefused(t, s, 1, 1, api.ErrName)
				checkRefused(t, "X\n\"a\""+s, 2, 4, api.ErrName)
				checkRefused(t, s+" $", 1, 1, api.ErrName)
			}
			checkRefused(t, "a.b."+long, 1, 4, api.ErrName)
			checkRefused(t, "X."+long, 1, 2, api.ErrName)
			checkRefused(t, "not."+long, 1, 4, api.ErrName)
			checkRefused(t, "a.."+long, 1, 3, api.ErrName)
			checkRefused(t, "a. "+long, 1, 4, api.ErrName)
			checkRefused(t, "a.V"+long, 1, 3, api.ErrName)
			checkRefused(t, "_"+long, 1, 1, api.ErrForm)
			checkRefused(t, "1"+long, 1, 1, api.ErrForm)
		}
	}
}

// TestP5_1DigitsAtTheLimit has as many as there may be, and one more.
func TestP5_1DigitsAtTheLimit(t *testing.T) {
	for _, c := range strings.Split("1900", "") {
		most := "1" + strings.Repeat(c, 199)
		checkTokens(t, most, num(most))
		checkTokens(t, most+"b", long(most))
		checkTokens(t, "-"+most+"b", sign("-"), long(most))
		checkTokens(t, most+" "+most+"b.a", num(most), long(most), field("a"))
		for _, digits := range []string{most + c, most + strings.Repeat(c, 5000), most + strings.Repeat(c, 60000)} {
			checkRefused(t, digits, 1, 1, api.ErrOver)
			checkRefused(t, digits+"b", 1, 1, api.ErrOver)
			checkRefused(t, "-"+digits+"b", 1, 2, api.ErrOver)
			checkRefused(t, "X\n+ "+digits+".a", 2, 3, api.ErrOver)
			checkRefused(t, digits+"b $", 1, 1, api.ErrOver)
			checkRefused(t, most+" "+digits, 1, 202, api.ErrOver)
			checkRefused(t, digits+"#", 1, 1, api.ErrOver)
			for _, wrong := range []string{"0" + digits, digits + "a", digits + "bb", digits + "_", digits + "b1", "0" + digits + "b", digits + "X"} { // too many digits, but of no number
				checkRefused(t, wrong, 1, 1, api.ErrForm)
			}
		}
	}
	checkRefused(t, strings.Repeat("0", 201), 1, 1, api.ErrForm)
	checkRefused(t, strings.Repeat("0", 200), 1, 1, api.ErrForm)
}

// TestP5_1TextsOfAllSizes has texts of as many bytes as there may be, and more, of all sorts.
func TestP5_1TextsOfAllSizes(t *testing.T) {
	checkTokens(t, "")
	for _, size := range []int{1, 2, 100, 65535, 65536} {
		checkTokens(t, strings.Repeat(" ", size))
		checkTokens(t, strings.Repeat("\n", size))
		checkTokens(t, strings.Repeat("#", size))
		checkTokens(t, strings.Repeat(" ", size-1)+"X", variable("X"))
		checkTokens(t, "X"+strings.Repeat("\n", size-1), variable("X"))
		checkTokens(t, strings.Repeat("(", size), slices.Repeat([]lex.Token{sign("(")}, size)...)
	}
	checkTokens(t, strings.Repeat("a ", 32768), slices.Repeat([]lex.Token{name("a")}, 32768)...)
	checkTokens(t, strings.Repeat("X.not ", 10922), slices.Repeat([]lex.Token{variable("X"), sign("."), word("not")}, 10922)...)
	for _, size := range []int{65537, 65538, 100000, 1 << 20} {
		for _, s := range []string{" ", "\n", "#", "X", "a", "1", "(", "$", "\"", "\x00", "\xff", "_"} {
			checkRefused(t, strings.Repeat(s, size), 1, 1, api.ErrTooLarge)
		}
		checkRefused(t, "\n\n $"+strings.Repeat(" ", size), 1, 1, api.ErrTooLarge)
		checkRefused(t, strings.Repeat("\n", size-1)+"$", 1, 1, api.ErrTooLarge)
		checkRefused(t, "X :- Y."+strings.Repeat("\n", size), 1, 1, api.ErrTooLarge)
	}
	checkRefused(t, strings.Repeat("\n", 65535)+"$", 65536, 1, api.ErrForm)
	checkRefused(t, strings.Repeat(" ", 65535)+"$", 1, 65536, api.ErrForm)
}
