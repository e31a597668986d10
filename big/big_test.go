package big_test

import (
	"math"
	"math/big"
	"strconv"
	"strings"
	"testing"

	"corollary/api"
	tested "corollary/big"
)

// nines is the largest number of n digits.
func nines(n int) string { return strings.Repeat("9", n) }

// power is the least number of n+1 digits, 10 to the n.
func power(n int) string { return "1" + strings.Repeat("0", n) }

// wrongTexts are texts that are not numbers, whatever their length.
func wrongTexts() []string {
	return []string{
		"", "-", "-0", "01", "+1", "1.5", "--1", "-01", "00", "1-", "1-1", "+", "+0", "1e3", "0x1", "a", "1_000", "1,000",
		" 1", "1 ", "1\n", "\t1", "- 1", "1\x00", "\x001", "\xff", "1\xff", "/", ":", "1/", "1:", "\u0661", "\uff11", "1b",
		strings.Repeat("0", 200), strings.Repeat("0", 201), "0" + nines(200), "-0" + nines(200), nines(200) + "x",
		nines(201) + "x", "-" + nines(300) + "-", nines(300) + ".5", "x" + nines(300), strings.Repeat("-", 300),
	}
}

// longTexts are numbers apart from their length.
func longTexts() []string {
	return []string{nines(201), "-" + nines(201), power(200), "-" + power(200), strings.Repeat("1", 5000), "-" + strings.Repeat("7", 100000)}
}

// random is a source that gives the same numbers each time.
type random uint64

func (r *random) below(n int) int {
	*r = *r*6364136223846793005 + 1442695040888963407
	return int(uint64(*r) >> 33 % uint64(n))
}

// digits makes a number of n digits out of pieces at the edges of what a part of a number may hold.
func (r *random) digits(n int) string {
	pieces := []string{"000000000", "000000001", "499999999", "500000000", "500000001", "999999998", "999999999", "123456789"}
	s := strconv.Itoa(1 + r.below(9))
	for len(s) < n {
		if r.below(3) == 0 {
			s += strconv.Itoa(r.below(10))
		} else {
			s += pieces[r.below(len(pieces))]
		}
	}
	return s[:n]
}

// number makes a number of at most n digits, of either sign.
func (r *random) number(n int) string {
	s := r.digits(1 + r.below(n))
	if r.below(2) == 0 {
		s = "-" + s
	}
	return s
}

// edges are numbers at the edges: of signs, of parts, of int64, of lengths.
func edges() []string {
	l := []string{"0"}
	for _, s := range []string{
		"1", "2", "3", "7", "9", "10", "11", "99", "100", "999", "1000", nines(8), power(8), nines(9), power(9), "1000000001", "4294967295", "4294967296",
		"500000000", "499999999", nines(17), nines(18), power(18), "1000000000000000001", "18446744073709551615", "18446744073709551616",
		"9223372036854775806", "9223372036854775807", "9223372036854775808", "9223372036854775809",
		nines(27), power(27), nines(99), power(99), nines(100), power(100), nines(101), nines(198), power(198), nines(199), power(199), nines(200),
	} {
		l = append(l, s, "-"+s)
	}
	return l
}

// samples are the edges, and more numbers of all lengths.
func samples() []string {
	l := edges()
	r := random(1)
	for n := 5; n <= 200; n += 5 {
		l = append(l, r.digits(n), "-"+r.digits(n-4))
	}
	return l
}

// exact is a number as the library of the language has it.
func exact(t *testing.T, s string) *big.Int {
	t.Helper()
	x, ok := new(big.Int).SetString(s, 10)
	if !ok {
		t.Fatalf("%q is not a number", s)
	}
	return x
}

// wanted is what an operation must return for a result.
func wanted(x *big.Int) (string, api.Errno) {
	s := x.String()
	if len(strings.TrimPrefix(s, "-")) > api.MaxDigits {
		return "", api.ErrOver
	}
	return s, api.OK
}

func TestP1_1CheckTakesNumbers(t *testing.T) {
	for _, s := range samples() {
		if e := tested.Check(s); e != api.OK {
			t.Errorf("Check(%q): %v", s, e)
		}
	}
	for _, s := range []string{"5", "10", "-10", "105", nines(200), "-" + nines(200), power(199), "-" + power(199)} {
		if e := tested.Check(s); e != api.OK {
			t.Errorf("Check(%q): %v", s, e)
		}
	}
}

func TestP1_1CheckRefuses(t *testing.T) {
	for _, s := range wrongTexts() {
		if e := tested.Check(s); e != api.ErrForm {
			t.Errorf("Check(%q): %v", s, e)
		}
	}
	for _, s := range longTexts() {
		if e := tested.Check(s); e != api.ErrOver {
			t.Errorf("Check of %d bytes: %v", len(s), e)
		}
	}
}

func TestP1_1CheckEveryShortText(t *testing.T) {
	for n := 0; n < 1<<16; n++ {
		for _, s := range []string{string([]byte{byte(n)}), string([]byte{byte(n >> 8), byte(n)})} {
			want := api.ErrForm
			if x, err := strconv.Atoi(s); err == nil && strconv.Itoa(x) == s {
				want = api.OK
			}
			if e := tested.Check(s); e != want {
				t.Fatalf("Check(%q): %v, not %v", s, e, want)
			}
		}
	}
}

func TestP1_1OfAndInt(t *testing.T) {
	for _, x := range []struct {
		n int64
		s string
	}{
		{0, "0"}, {1, "1"}, {-1, "-1"}, {9, "9"}, {10, "10"}, {-10, "-10"}, {105, "105"}, {999999999, "999999999"}, {1000000000, "1000000000"}, {-1000000000, "-1000000000"},
		{math.MaxInt32 + 1, "2147483648"}, {math.MaxInt64, "9223372036854775807"}, {math.MaxInt64 - 1, "9223372036854775806"},
		{math.MinInt64, "-9223372036854775808"}, {math.MinInt64 + 1, "-9223372036854775807"},
	} {
		if s := tested.Of(x.n); s != x.s {
			t.Errorf("Of(%d): %s", x.n, s)
		}
		if n, e := tested.Int(x.s); n != x.n || e != api.OK {
			t.Errorf("Int(%s): %d, %v", x.s, n, e)
		}
	}
}

func TestP1_1IntOfSamples(t *testing.T) {
	for _, s := range samples() {
		want, e := int64(0), api.ErrOver
		if x := exact(t, s); x.IsInt64() {
			want, e = x.Int64(), api.OK
		}
		if n, got := tested.Int(s); n != want || got != e {
			t.Errorf("Int(%s): %d, %v", s, n, got)
		}
	}
}

func TestP1_1Neg(t *testing.T) {
	for _, x := range [][2]string{{"0", "0"}, {"1", "-1"}, {"-1", "1"}, {"-9223372036854775808", "9223372036854775808"}, {nines(200), "-" + nines(200)}} {
		if s, e := tested.Neg(x[0]); s != x[1] || e != api.OK {
			t.Errorf("Neg(%s): %s, %v", x[0], s, e)
		}
	}
	for _, a := range samples() {
		want := new(big.Int).Neg(exact(t, a)).String()
		if s, e := tested.Neg(a); s != want || e != api.OK {
			t.Errorf("Neg(%s): %s, %v", a, s, e)
		}
	}
}

func TestP1_1Cmp(t *testing.T) {
	for _, x := range []struct {
		a, b string
		want int
	}{{"-2", "1", -1}, {"0", "0", 0}, {"0", "-1", 1}, {"10", "9", 1}, {"-10", "-9", -1}, {"-9", "-10", 1}, {"-5", "-5", 0}, {nines(200), "-" + nines(200), 1}, {power(199), nines(199), 1}} {
		if n, e := tested.Cmp(x.a, x.b); n != x.want || e != api.OK {
			t.Errorf("Cmp(%s, %s): %d, %v", x.a, x.b, n, e)
		}
	}
	for _, a := range samples() {
		for _, b := range samples() {
			if n, e := tested.Cmp(a, b); n != exact(t, a).Cmp(exact(t, b)) || e != api.OK {
				t.Errorf("Cmp(%s, %s): %d, %v", a, b, n, e)
			}
		}
	}
}

// operationCase is what an operation must return for two numbers.
type operationCase struct {
	name    string
	operate func(a, b string) (string, api.Errno)
	a, b    string
	want    string
	e       api.Errno
}

func checkCases(t *testing.T, l []operationCase) {
	t.Helper()
	for _, x := range l {
		if s, e := x.operate(x.a, x.b); s != x.want || e != x.e {
			t.Errorf("%s(%s, %s): %s, %v", x.name, x.a, x.b, s, e)
		}
	}
}

func TestP1_2Examples(t *testing.T) {
	add, sub, mul, div, mod := tested.Add, tested.Sub, tested.Mul, tested.Div, tested.Mod
	checkCases(t, []operationCase{
		{"Add", add, "999", "1", "1000", api.OK}, {"Add", add, "-5", "5", "0", api.OK}, {"Add", add, "-5", "3", "-2", api.OK}, {"Add", add, "5", "-3", "2", api.OK},
		{"Add", add, "9999999999999999999", "1", "10000000000000000000", api.OK}, {"Add", add, "999999999", "1", "1000000000", api.OK},
		{"Add", add, "9223372036854775807", "1", "9223372036854775808", api.OK}, {"Sub", sub, "-9223372036854775808", "1", "-9223372036854775809", api.OK},
		{"Sub", sub, "1", "1000", "-999", api.OK}, {"Sub", sub, "1000000000", "1", "999999999", api.OK}, {"Sub", sub, "0", "0", "0", api.OK},
		{"Mul", mul, "-12", "12", "-144", api.OK}, {"Mul", mul, "-12", "-12", "144", api.OK}, {"Mul", mul, "-12", "0", "0", api.OK}, {"Mul", mul, "0", "-12", "0", api.OK},
		{"Div", div, "-7", "2", "-3", api.OK}, {"Div", div, "7", "-2", "-3", api.OK}, {"Div", div, "-7", "-2", "3", api.OK}, {"Div", div, "7", "2", "3", api.OK},
		{"Mod", mod, "-7", "2", "-1", api.OK}, {"Mod", mod, "7", "-2", "1", api.OK}, {"Mod", mod, "-7", "-2", "-1", api.OK}, {"Mod", mod, "7", "2", "1", api.OK},
		{"Div", div, "-8", "2", "-4", api.OK}, {"Mod", mod, "-8", "2", "0", api.OK}, {"Div", div, "0", "-5", "0", api.OK}, {"Mod", mod, "0", "-5", "0", api.OK},
		// A lesser number by a greater one.
		{"Div", div, "3", "7", "0", api.OK}, {"Mod", mod, "3", "7", "3", api.OK}, {"Div", div, "-3", "7", "0", api.OK}, {"Mod", mod, "-3", "7", "-3", api.OK},
		{"Div", div, "3", "-7", "0", api.OK}, {"Mod", mod, "3", "-7", "3", api.OK}, {"Div", div, "5", nines(200), "0", api.OK}, {"Mod", mod, "-5", nines(200), "-5", api.OK},
		{"Div", div, nines(199), "-" + nines(200), "0", api.OK}, {"Mod", mod, nines(199), "-" + nines(200), nines(199), api.OK},
		{"Div", div, "-9223372036854775808", "-1", "9223372036854775808", api.OK}, {"Mod", mod, "-9223372036854775808", "-1", "0", api.OK},
		{"Div", div, nines(200), "-1", "-" + nines(200), api.OK}, {"Div", div, nines(200), nines(200), "1", api.OK}, {"Div", div, power(199), power(100), power(99), api.OK},
		{"Div", div, "7", "0", "", api.ErrZero}, {"Mod", mod, "7", "0", "", api.ErrZero}, {"Div", div, "0", "0", "", api.ErrZero}, {"Mod", mod, "0", "0", "", api.ErrZero},
	})
}

func TestP1_2LongResults(t *testing.T) {
	below := nines(199) + "8"
	checkCases(t, []operationCase{
		{"Add", tested.Add, below, "1", nines(200), api.OK}, {"Add", tested.Add, nines(200), "0", nines(200), api.OK}, {"Add", tested.Add, nines(199), "1", power(199), api.OK},
		{"Add", tested.Add, nines(200), "1", "", api.ErrOver}, {"Add", tested.Add, nines(200), nines(200), "", api.ErrOver}, {"Add", tested.Add, "-" + nines(200), "-1", "", api.ErrOver},
		{"Add", tested.Add, "-" + below, "-1", "-" + nines(200), api.OK}, {"Add", tested.Add, nines(200), "-" + nines(200), "0", api.OK},
		{"Sub", tested.Sub, "-" + below, "1", "-" + nines(200), api.OK}, {"Sub", tested.Sub, "-" + nines(200), "1", "", api.ErrOver}, {"Sub", tested.Sub, nines(200), "-1", "", api.ErrOver},
		{"Sub", tested.Sub, nines(200), "1", below, api.OK}, {"Sub", tested.Sub, power(199), "1", nines(199), api.OK},
		{"Mul", tested.Mul, power(99), power(100), power(199), api.OK}, {"Mul", tested.Mul, "-" + power(99), power(100), "-" + power(199), api.OK},
		{"Mul", tested.Mul, power(100), power(100), "", api.ErrOver}, {"Mul", tested.Mul, "-" + power(100), power(100), "", api.ErrOver},
		{"Mul", tested.Mul, nines(100), nines(100), nines(99) + "8" + strings.Repeat("0", 99) + "1", api.OK}, {"Mul", tested.Mul, nines(100), nines(101), "", api.ErrOver},
		{"Mul", tested.Mul, nines(150), nines(150), "", api.ErrOver}, {"Mul", tested.Mul, nines(200), nines(200), "", api.ErrOver}, {"Mul", tested.Mul, nines(200), "0", "0", api.OK},
	})
}

// checkOperations holds all five operations on two numbers against the library of the language.
func checkOperations(t *testing.T, a, b string) {
	t.Helper()
	x, y := exact(t, a), exact(t, b)
	check := func(name string, operate func(a, b string) (string, api.Errno), result *big.Int) {
		t.Helper()
		want, e := wanted(result)
		if s, got := operate(a, b); s != want || got != e {
			t.Errorf("%s(%s, %s): %s, %v", name, a, b, s, got)
		}
	}
	check("Add", tested.Add, new(big.Int).Add(x, y))
	check("Sub", tested.Sub, new(big.Int).Sub(x, y))
	check("Mul", tested.Mul, new(big.Int).Mul(x, y))
	if b != "0" {
		check("Div", tested.Div, new(big.Int).Quo(x, y))
		check("Mod", tested.Mod, new(big.Int).Rem(x, y))
	}
}

func TestP1_2SmallNumbers(t *testing.T) {
	for a := -40; a <= 40; a++ {
		for b := -40; b <= 40; b++ {
			checkOperations(t, strconv.Itoa(a), strconv.Itoa(b))
		}
	}
}

func TestP1_2Samples(t *testing.T) {
	for _, a := range samples() {
		for _, b := range samples() {
			checkOperations(t, a, b)
		}
	}
}

func TestP1_2ManyNumbers(t *testing.T) {
	r := random(2)
	for range 20000 {
		checkOperations(t, r.number(200), r.number(1+r.below(200)))
	}
}

// TestP1_2QuotientsNearMultiples divides numbers at, and next to, multiples of the divisor.
func TestP1_2QuotientsNearMultiples(t *testing.T) {
	r := random(3)
	for range 5000 {
		b, q := r.digits(1+r.below(100)), r.digits(1+r.below(99))
		product := new(big.Int).Mul(exact(t, b), exact(t, q))
		for d := int64(-1); d <= 1; d++ {
			checkOperations(t, new(big.Int).Add(product, big.NewInt(d)).String(), b)
		}
	}
}
