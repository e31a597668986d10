package intern_test

import (
	"math"
	"slices"
	"strconv"
	"strings"
	"testing"

	"corollary/api"
	"corollary/intern"
	"corollary/value"
)

func num(n int64) api.Value                      { return api.Value{Kind: api.Int, N: n} }
func text(s string) api.Value                    { return api.Value{Kind: api.Text, S: s} }
func tuple(l ...api.Value) api.Value             { return api.Value{Kind: api.Tuple, L: l} }
func cons(name string, l ...api.Value) api.Value { return api.Value{Kind: api.Cons, S: name, L: l} }

// nested is a value of a depth, in constructors around an innermost one.
func nested(depth int, innermost api.Value) api.Value {
	for range depth - 1 {
		innermost = cons("s", innermost)
	}
	return innermost
}

// endless is a value that contains itself.
func endless() api.Value {
	l := make([]api.Value, 2)
	l[0], l[1] = num(1), tuple(l...)
	return l[1]
}

// different are valid values, no two of which are the same.
func different() []api.Value {
	return slices.Concat(differentKinds(), differentParts(), differentNesting(), differentTexts())
}

// differentKinds are values some of which differ only in their Kind, or look as if they did.
func differentKinds() []api.Value {
	var l []api.Value
	for _, n := range []int64{0, 1} {
		digit := string(rune('0' + n))
		l = append(l, api.Value{Kind: api.Bool, N: n}, num(n), api.Value{Kind: api.Big, S: digit}, text(digit), text(digit+"b"))
	}
	return append(l, text(""), tuple(), text("()"), text("nil"), cons("nil"), text("true"), cons("m.true"), text("false"), cons("m.false"),
		tuple(num(1), num(2)), cons("a", num(1), num(2)), text("(1, 2)"), cons("a", tuple(num(1), num(2))), tuple(cons("a"), tuple(num(1), num(2))))
}

// differentParts are values that differ in a number, a name, or one item.
func differentParts() []api.Value {
	l := []api.Value{num(-1), num(5), num(math.MinInt64), num(math.MinInt64 + 1), num(math.MaxInt64)}
	for _, s := range []string{"-1", "9223372036854775807", "-9223372036854775808", strings.Repeat("9", 199), strings.Repeat("9", 200), "-" + strings.Repeat("9", 200)} {
		l = append(l, api.Value{Kind: api.Big, S: s})
	}
	for _, name := range []string{"a", "a.b", "a.c", "b.b", "ab", "aB", "a_b", strings.Repeat("n", 32), strings.Repeat("n", 32) + "." + strings.Repeat("n", 32)} {
		l = append(l, cons(name), cons(name, num(1)), cons(name, num(2)), cons(name, num(1), num(3)), cons(name, num(3), num(1)))
	}
	many := slices.Repeat([]api.Value{num(7)}, 16)
	return append(l, tuple(num(2), num(1)), tuple(num(1), num(3)), tuple(num(1), text("2")), tuple(num(1), num(2), num(3)), tuple(many[:15]...), tuple(many...), cons("a", many[:7]...), cons("a", many[:8]...))
}

// differentNesting are values of the same parts that are nested in other ways.
func differentNesting() []api.Value {
	one, two, three := num(1), num(2), num(3)
	return []api.Value{
		tuple(one, tuple(two, three)), tuple(tuple(one, two), three), tuple(tuple(one, two), tuple()), tuple(tuple(), tuple(one, two)), tuple(tuple(), one, two),
		cons("a", one, cons("a", two)), cons("a", cons("a", one), two), cons("a", cons("a", one, two)), cons("a", cons("a"), one, two), cons("a", one, two, cons("a")),
		cons("a", tuple()), cons("a", cons("b")), cons("b", cons("a")), cons("a", cons("a", cons("b"))), cons("a", tuple(cons("a"), cons("b"))),
		nested(63, one), nested(64, one), nested(64, two), nested(64, tuple()), nested(64, text("")), nested(63, tuple(one, two)),
	}
}

// differentTexts are texts, alone and in tuples, that look like one another or like other values.
func differentTexts() []api.Value {
	var l []api.Value
	for n := range 256 {
		if c := string([]byte{byte(n)}); c != "0" && c != "1" {
			l = append(l, text(c))
		}
	}
	for _, s := range []string{`\n`, `\x0a`, `\x00`, `\"`, `\\`, `""`, "a\"", "\"a", "\u00e4", "\x00\x00", strings.Repeat("a", 4095), strings.Repeat("a", 4096), strings.Repeat("\xff", 4096)} {
		l = append(l, text(s))
	}
	return append(l, tuple(text("a"), text("b")), text(`"a", "b"`), text(`("a", "b")`), tuple(text("a"), text("b"), text("c")), tuple(text(`a", "b`), text("c")), tuple(text("a"), text(`b", "c`)), cons("a", text("b, c")), cons("a", text("b"), text("c")))
}

// wrong is an invalid value, with the error of value.Check.
type wrong struct {
	v api.Value
	e api.Errno
}

// invalid are values that are not valid. Some of them differ in little from valid ones.
func invalid() []wrong {
	items := slices.Repeat([]api.Value{num(1)}, 17)
	return []wrong{
		{api.Value{}, api.ErrForm}, {api.Value{N: 5}, api.ErrForm}, {api.Value{Kind: 7}, api.ErrForm}, {api.Value{Kind: 255, S: "a"}, api.ErrForm},
		{api.Value{Kind: api.Bool, N: 2}, api.ErrForm}, {api.Value{Kind: api.Bool, N: 1, S: "a"}, api.ErrForm}, {api.Value{Kind: api.Int, N: 5, S: "5"}, api.ErrForm}, {api.Value{Kind: api.Int, N: 5, L: items[:2]}, api.ErrForm},
		{api.Value{Kind: api.Big}, api.ErrForm}, {api.Value{Kind: api.Big, S: "01"}, api.ErrForm}, {api.Value{Kind: api.Big, S: "-0"}, api.ErrForm}, {api.Value{Kind: api.Big, S: strings.Repeat("9", 201)}, api.ErrTooLarge},
		{api.Value{Kind: api.Text, N: 1}, api.ErrForm}, {api.Value{Kind: api.Text, S: "a", N: 1}, api.ErrForm}, {text(strings.Repeat("a", 4097)), api.ErrTooLarge},
		{tuple(num(1)), api.ErrForm}, {tuple(items...), api.ErrTooLarge}, {tuple(num(1), api.Value{}), api.ErrForm}, {api.Value{Kind: api.Tuple, S: "a"}, api.ErrForm},
		{cons(""), api.ErrForm}, {cons("true"), api.ErrForm}, {cons("A"), api.ErrForm}, {cons("a.b.c"), api.ErrForm}, {cons("a", items[:9]...), api.ErrTooLarge}, {cons("a", tuple(num(1))), api.ErrForm}, {cons("a", text(strings.Repeat("a", 4097))), api.ErrTooLarge},
		{nested(65, num(1)), api.ErrDeep}, {nested(65, api.Value{}), api.ErrDeep}, {nested(1000, num(1)), api.ErrDeep}, {endless(), api.ErrDeep}, {cons("a", endless()), api.ErrDeep}, {api.Value{Kind: api.Int, L: endless().L}, api.ErrDeep},
	}
}

// same tells whether two lists of values are the same to the last field (an empty list being nil or not).
func same(a, b []api.Value) bool {
	return slices.EqualFunc(a, b, func(x, y api.Value) bool {
		return x.Kind == y.Kind && x.N == y.N && x.S == y.S && same(x.L, y.L)
	})
}

// brief are the first values of a list, for a message. Invalid ones, some of which have no end, are not written.
func brief(l ...api.Value) string {
	var texts []string
	for _, v := range l[:min(len(l), 9)] {
		s := value.Show(v)
		if s == "" {
			s = "invalid"
		}
		texts = append(texts, s[:min(len(s), 99)])
	}
	return strconv.Itoa(len(l)) + ": " + strings.Join(texts, "; ")
}

// upTo are the numbers from 0 to below n.
func upTo(n int) []int {
	l := make([]int, n)
	for i := range l {
		l[i] = i
	}
	return l
}

// tableOf is a table in which values were put, one by one.
func tableOf(t *testing.T, l ...api.Value) *intern.Table {
	t.Helper()
	x := intern.New()
	for _, v := range l {
		if _, e := x.Put(v); e != api.OK {
			t.Fatalf("Put(%s): %v", brief(v), e)
		}
	}
	return x
}

// checkHas requires that a table has just these values, in the order of their numbers.
func checkHas(t *testing.T, x *intern.Table, want ...api.Value) {
	t.Helper()
	if x.Len() != len(want) {
		t.Errorf("Len: %d, not %d", x.Len(), len(want))
	}
	if got, e := x.Row(upTo(len(want))); e != api.OK || !same(got, want) {
		t.Errorf("all values: %s, %v", brief(got...), e)
	}
	for i, v := range want {
		if n, there := x.Find(v); n != i || !there {
			t.Errorf("Find(%s): %d, %t, not %d", brief(v), n, there, i)
		}
		if got, e := x.At(i); e != api.OK || !same([]api.Value{got}, []api.Value{v}) {
			t.Errorf("At(%d): %s, %v", i, brief(got), e)
		}
	}
	if v, e := x.At(len(want)); e != api.ErrNone || !isZero(v) {
		t.Errorf("At(%d), behind the last one: %s, %v", len(want), brief(v), e)
	}
}

// checkMissing requires that values are not in a table.
func checkMissing(t *testing.T, x *intern.Table, l ...api.Value) {
	t.Helper()
	for _, v := range l {
		if n, there := x.Find(v); n != 0 || there {
			t.Errorf("Find(%s): %d, %t", brief(v), n, there)
		}
	}
}

func isZero(v api.Value) bool { return same([]api.Value{v}, []api.Value{{}}) }
