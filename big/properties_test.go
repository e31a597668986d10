package big_test

import (
	"cmp"
	"strings"
	"testing"

	"corollary/api"
	tested "corollary/big"
)

// operation is one of the calls on two numbers.
type operation func(a, b string) (string, api.Errno)

// chain applies operations whose operands may be too long, and remembers whether one was.
type chain struct {
	t    *testing.T
	over bool
}

func (c *chain) do(operate operation, a, b string) string {
	c.t.Helper()
	if c.over {
		return ""
	}
	s, e := operate(a, b)
	if e == api.ErrOver {
		c.over = true
	} else if e != api.OK {
		c.t.Fatalf("%s, %s: %v", a, b, e)
	}
	return s
}

// must applies an operation that can't fail.
func must(t *testing.T, operate operation, a, b string) string {
	t.Helper()
	s, e := operate(a, b)
	if e != api.OK {
		t.Fatalf("%s, %s: %v", a, b, e)
	}
	return s
}

func order(t *testing.T, a, b string) int {
	t.Helper()
	n, e := tested.Cmp(a, b)
	if e != api.OK {
		t.Fatalf("Cmp(%s, %s): %v", a, b, e)
	}
	return n
}

// triples are lists of three numbers, some of them too long to be multiplied, most of them not.
func triples() [][3]string {
	few := []string{"0", "1", "-1", "2", "-7", "999999999", "-1000000000", "9223372036854775807", "-9223372036854775808", nines(66), "-" + power(65), nines(100), "-" + nines(200)}
	var l [][3]string
	for _, a := range few {
		for _, b := range few {
			for _, c := range few {
				l = append(l, [3]string{a, b, c})
			}
		}
	}
	r := random(4)
	for range 3000 {
		n := 1 + r.below(90)
		l = append(l, [3]string{r.number(n), r.number(n), r.number(n)})
	}
	return l
}

// same checks that two ways to compute come to the same, where nothing is too long, and counts those.
func same(t *testing.T, name string, first, second func(c *chain, x [3]string) string) {
	t.Helper()
	count := 0
	for _, x := range triples() {
		c := &chain{t: t}
		a, b := first(c, x), second(c, x)
		if c.over {
			continue
		}
		count++
		if a != b {
			t.Errorf("%s: %v: %s, %s", name, x, a, b)
		}
	}
	if count < 2000 {
		t.Errorf("%s: only %d triples were computed", name, count)
	}
}

func TestP1_3SumsInAnyOrder(t *testing.T) {
	same(t, "a + b",
		func(c *chain, x [3]string) string { return c.do(tested.Add, x[0], x[1]) },
		func(c *chain, x [3]string) string { return c.do(tested.Add, x[1], x[0]) })
	same(t, "a + b + c",
		func(c *chain, x [3]string) string { return c.do(tested.Add, c.do(tested.Add, x[0], x[1]), x[2]) },
		func(c *chain, x [3]string) string { return c.do(tested.Add, x[0], c.do(tested.Add, x[1], x[2])) })
}

func TestP1_3ProductsInAnyOrder(t *testing.T) {
	same(t, "a b",
		func(c *chain, x [3]string) string { return c.do(tested.Mul, x[0], x[1]) },
		func(c *chain, x [3]string) string { return c.do(tested.Mul, x[1], x[0]) })
	same(t, "a b c",
		func(c *chain, x [3]string) string { return c.do(tested.Mul, c.do(tested.Mul, x[0], x[1]), x[2]) },
		func(c *chain, x [3]string) string { return c.do(tested.Mul, x[0], c.do(tested.Mul, x[1], x[2])) })
}

func TestP1_3ProductsDistributeOverSums(t *testing.T) {
	same(t, "a (b + c)",
		func(c *chain, x [3]string) string { return c.do(tested.Mul, x[0], c.do(tested.Add, x[1], x[2])) },
		func(c *chain, x [3]string) string {
			return c.do(tested.Add, c.do(tested.Mul, x[0], x[1]), c.do(tested.Mul, x[0], x[2]))
		})
}

func TestP1_3Opposites(t *testing.T) {
	for _, a := range samples() {
		opposite, e := tested.Neg(a)
		if e != api.OK {
			t.Fatalf("Neg(%s): %v", a, e)
		}
		if s := must(t, tested.Sub, a, a); s != "0" {
			t.Errorf("%s - itself: %s", a, s)
		}
		if s := must(t, tested.Add, a, opposite); s != "0" {
			t.Errorf("%s + %s: %s", a, opposite, s)
		}
		if s := must(t, tested.Mul, a, "1"); s != a {
			t.Errorf("%s * 1: %s", a, s)
		}
		if s := must(t, tested.Add, a, "0"); s != a {
			t.Errorf("%s + 0: %s", a, s)
		}
	}
}

// checkRemainder checks that a is b times Div plus Mod, and what P1.2 says of Mod.
func checkRemainder(t *testing.T, a, b string) {
	t.Helper()
	quotient, rest := must(t, tested.Div, a, b), must(t, tested.Mod, a, b)
	if s := must(t, tested.Add, must(t, tested.Mul, b, quotient), rest); s != a {
		t.Errorf("%s by %s: %s, %s: %s", a, b, quotient, rest, s)
	}
	if rest != "0" && strings.HasPrefix(rest, "-") != strings.HasPrefix(a, "-") {
		t.Errorf("Mod(%s, %s): the sign of %s", a, b, rest)
	}
	if order(t, strings.TrimPrefix(rest, "-"), strings.TrimPrefix(b, "-")) >= 0 {
		t.Errorf("Mod(%s, %s): %s is too large", a, b, rest)
	}
}

func TestP1_4Remainder(t *testing.T) {
	for _, a := range samples() {
		for _, b := range samples() {
			if b != "0" {
				checkRemainder(t, a, b)
			}
		}
	}
	r := random(5)
	for range 10000 {
		checkRemainder(t, r.number(200), r.number(1+r.below(200)))
	}
}

func TestP1_5OrderOfTwo(t *testing.T) {
	for _, a := range samples() {
		for _, b := range samples() {
			if order(t, a, b) != -order(t, b, a) {
				t.Errorf("Cmp(%s, %s) and turned round", a, b)
			}
			if (order(t, a, b) == 0) != (a == b) {
				t.Errorf("Cmp(%s, %s): %d", a, b, order(t, a, b))
			}
		}
	}
}

func TestP1_5OrderOfThree(t *testing.T) {
	for _, x := range triples() {
		a, b, c := x[0], x[1], x[2]
		if order(t, a, b) <= 0 && order(t, b, c) <= 0 && order(t, a, c) > 0 {
			t.Errorf("%v: not an order", x)
		}
	}
}

func TestP1_5SumsKeepTheOrder(t *testing.T) {
	count := 0
	for _, x := range triples() {
		c := &chain{t: t}
		a, b := c.do(tested.Add, x[0], x[2]), c.do(tested.Add, x[1], x[2])
		if c.over {
			continue
		}
		count++
		if order(t, a, b) != order(t, x[0], x[1]) {
			t.Errorf("%v: the sums %s, %s", x, a, b)
		}
	}
	if count < 2000 {
		t.Errorf("only %d triples were added", count)
	}
}

// byDigits is the order of two magnitudes by their lengths, then by their digits.
func byDigits(a, b string) int {
	return cmp.Or(cmp.Compare(len(a), len(b)), strings.Compare(a, b))
}

func TestP1_5OrderAgreesWithDigits(t *testing.T) {
	for _, x := range samples() {
		for _, y := range samples() {
			a, b := strings.TrimPrefix(x, "-"), strings.TrimPrefix(y, "-")
			if order(t, a, b) != byDigits(a, b) {
				t.Errorf("Cmp(%s, %s): %d", a, b, order(t, a, b))
			}
			if a != "0" && b != "0" && order(t, "-"+a, "-"+b) != byDigits(b, a) {
				t.Errorf("Cmp(-%s, -%s): %d", a, b, order(t, "-"+a, "-"+b))
			}
			if a != "0" && order(t, "-"+a, b) != -1 {
				t.Errorf("Cmp(-%s, %s): %d", a, b, order(t, "-"+a, b))
			}
		}
	}
}
