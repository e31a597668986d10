package value_test

import (
	"math"
	"math/rand/v2"
	"slices"
	"strings"

	"corollary/api"
)

func boolean(n int64) api.Value                  { return api.Value{Kind: api.Bool, N: n} }
func num(n int64) api.Value                      { return api.Value{Kind: api.Int, N: n} }
func long(s string) api.Value                    { return api.Value{Kind: api.Big, S: s} }
func text(s string) api.Value                    { return api.Value{Kind: api.Text, S: s} }
func tuple(l ...api.Value) api.Value             { return api.Value{Kind: api.Tuple, L: l} }
func cons(name string, l ...api.Value) api.Value { return api.Value{Kind: api.Cons, S: name, L: l} }
func row(l ...api.Value) []api.Value             { return l }
func times(n int, v api.Value) []api.Value       { return slices.Repeat(row(v), n) }
func nines(n int) string                         { return strings.Repeat("9", n) }
func power(n int) string                         { return "1" + strings.Repeat("0", n) }

// nested is a value of a depth, in constructors around an innermost one.
func nested(depth int, innermost api.Value) api.Value {
	v := innermost
	for range depth - 1 {
		v = cons("s", v)
	}
	return v
}

// endless is a value that contains itself.
func endless() api.Value {
	l := make([]api.Value, 2)
	l[0], l[1] = num(1), tuple(l...)
	return l[1]
}

// increasing are valid values, each of which is before the next one.
func increasing() []api.Value {
	name := strings.Repeat("n", api.MaxName)
	return []api.Value{
		boolean(0), boolean(1),
		num(math.MinInt64), num(math.MinInt64 + 1), num(-10), num(-9), num(-5), num(-1), num(0), num(1), num(3), num(9), num(10), num(math.MaxInt64 - 1), num(math.MaxInt64),
		long("-" + nines(200)), long("-" + power(199)), long("-" + nines(199)), long("-9223372036854775809"), long("-10"), long("-9"), long("-5"), long("-1"),
		long("0"), long("1"), long("3"), long("9"), long("10"), long("99"), long("100"), long("9223372036854775807"), long("9223372036854775808"), long(nines(199)), long(power(199)), long(nines(200)),
		text(""), text("\x00"), text("\x00\x00"), text("\x00a"), text("\t"), text("\n"), text(" "), text("\""), text("10"), text("9"), text("Z"), text("\\"), text("a"), text("a\x00"), text("a\""), text("aa"), text("ab"), text("b"),
		text(strings.Repeat("c", api.MaxString-1)), text(strings.Repeat("c", api.MaxString)), text("\x7f"), text("\x80"), text("\xc3\xa4"), text("\xff"), text("\xff\xff"),
		tuple(), tuple(boolean(0), boolean(0)), tuple(boolean(0), num(1)), tuple(boolean(1), boolean(0)), tuple(num(1), num(2)), tuple(num(1), num(2), num(0)), tuple(num(1), num(3)), tuple(num(1), num(10)), tuple(num(1), text("a")), tuple(num(1), text("b")),
		tuple(num(2), num(-5)), tuple(num(2), num(-5), num(1), num(1)), tuple(times(15, num(7))...), tuple(times(16, num(7))...), tuple(times(2, num(8))...),
		tuple(text("a"), tuple()), tuple(text("a"), tuple(num(1), num(1))), tuple(text("a"), cons("a")), tuple(tuple(), tuple()), tuple(tuple(num(1), num(2)), num(0)), tuple(cons("z"), num(0)),
		cons("a"), cons("a", num(5)), cons("a", num(5), num(5)), cons("a", cons("b")), cons("a.b"), cons("a.c", num(1)), cons("aA"), cons("a_"), cons("aa"), cons("b"), cons("cons", num(1), cons("nil")), cons("cons", num(2)),
		cons("f", times(7, num(1))...), cons("f", times(8, num(1))...), cons("f", num(2)), cons("m.false"), cons("m.true"), cons("nil"), cons(name), cons(name + "." + name), cons("nope"),
		nested(63, num(1)), nested(63, num(2)), nested(64, tuple()), nested(64, cons("nil")), nested(2, cons("t")), cons("truer"), cons("z9"),
	}
}

// invalid are values that are not valid.
func invalid() []api.Value {
	l := append(wrongForms(), tooLong()...)
	return append(l, tooDeep()...)
}

// wrongForms are values whose form is wrong, whatever their lengths.
func wrongForms() []api.Value {
	l := []api.Value{
		{}, {N: 1}, {S: "a"}, {Kind: 7}, {Kind: 7, N: 1}, {Kind: 7, S: "a"}, {Kind: 7, L: row(num(1), num(2))}, {Kind: 8}, {Kind: 128}, {Kind: 255},
		boolean(2), boolean(-1), boolean(math.MaxInt64), boolean(math.MinInt64), boolean(256), boolean(1 << 32),
		tuple(num(1)), tuple(tuple()), tuple(boolean(2)), tuple(num(1), boolean(2)), tuple(api.Value{}, num(1)), cons("a", tuple(num(1))), cons("a", long("01"), num(1)), cons("a", cons("A")),
		tuple(num(1), tuple(num(1), tuple(num(1), api.Value{}))), nested(64, api.Value{}), nested(64, boolean(2)),
	}
	for _, s := range []string{"", "-", "-0", "01", "00", "+1", "1b", " 1", "1 ", "1.0", "1e3", "--1", "a", "0x1", "1_0", "\xff", "\u0661", "-01", strings.Repeat("0", 200), "0" + nines(200), nines(200) + "b", "-"} {
		l = append(l, long(s))
	}
	for _, s := range wrongNames() {
		l = append(l, cons(s), cons(s, num(1)))
	}
	return append(l, foreignFields()...)
}

// wrongNames are texts that no constructor may have as its name.
func wrongNames() []string {
	name := strings.Repeat("n", api.MaxName)
	return []string{
		"", "true", "false", "A", "Nil", "_", "_a", "1", "1a", "a-b", "a b", " a", "a ", "a\n", "a\x00", "\x00", "a\xff", "\xff", "\u00e4", "a\u00e4", "a\u0661", "a'", "'a", "a:", "a/", "a@", "a[", "a`", "a{", "`", "{", "@", "[",
		".", "a.", ".a", "..", "a..b", "a.b.c", "a.b.", ".a.b", "a.B", "A.b", "a._", "_.a", "a.1", "1.a", "a. b", "a .b", "a.b c", "true.", ".true", "true.false.a",
		name + "n", name + "." + name + "n", name + "n." + name, "a." + name + "n", name + "n.a", strings.Repeat("n", 65), strings.Repeat("n", 5000), "a." + strings.Repeat("n", 5000),
	}
}

// foreignFields are values with a field that their Kind does not have.
func foreignFields() []api.Value {
	one, two := row(num(1)), row(num(1), num(2))
	return []api.Value{
		{Kind: api.Bool, S: "a"}, {Kind: api.Bool, S: "0"}, {Kind: api.Bool, L: one}, {Kind: api.Bool, L: two}, {Kind: api.Bool, N: 1, L: two},
		{Kind: api.Int, S: "1"}, {Kind: api.Int, N: 1, S: "1"}, {Kind: api.Int, L: one}, {Kind: api.Int, L: two},
		{Kind: api.Big, S: "1", N: 1}, {Kind: api.Big, S: "1", N: -1}, {Kind: api.Big, S: "1", L: one}, {Kind: api.Big, S: "1", L: two},
		{Kind: api.Text, S: "a", N: 1}, {Kind: api.Text, N: -1}, {Kind: api.Text, L: one}, {Kind: api.Text, S: "a", L: two},
		{Kind: api.Tuple, N: 1}, {Kind: api.Tuple, S: "a"}, {Kind: api.Tuple, N: 1, L: two}, {Kind: api.Tuple, S: "a", L: two},
		{Kind: api.Cons, S: "a", N: 1}, {Kind: api.Cons, S: "a", N: -1, L: one},
	}
}

// tooLong are values that would be valid, but for a length.
func tooLong() []api.Value {
	return []api.Value{
		long(nines(201)), long("-" + nines(201)), long(power(200)), long(strings.Repeat("1", 5000)), long("-" + strings.Repeat("1", 5000)),
		text(strings.Repeat("a", 4097)), text(strings.Repeat("\x00", 100000)), text("\"" + strings.Repeat("\xff", 4096)),
		tuple(times(17, num(1))...), tuple(times(1000, num(1))...), cons("a", times(9, num(1))...), cons("a.b", times(1000, num(1))...),
		tuple(num(1), long(nines(201))), cons("a", num(1), text(strings.Repeat("a", 4097))), nested(64, long(nines(201))), nested(63, cons("b", times(9, num(1))...)),
		tuple(times(17, long(nines(201)))...), cons("a", times(9, tuple(times(17, num(1))...))...),
	}
}

// tooDeep are values that are nested too deep, whatever else is wrong with them.
func tooDeep() []api.Value {
	right := tuple()
	for range api.MaxDepth {
		right = tuple(num(1), right)
	}
	mixed := num(1)
	for i := range 40 {
		mixed = cons("a", tuple(mixed, num(int64(i))))
	}
	deep := nested(65, num(1))
	return []api.Value{
		deep, nested(65, tuple()), nested(65, cons("nil")), nested(66, num(1)), nested(1000, num(1)), nested(60000, num(1)), right, mixed, endless(), tuple(num(1), endless()), tuple(deep, num(1)), cons("a", num(1), deep),
		// With a wrong form, or a length.
		nested(65, api.Value{}), nested(65, long("01")), nested(65, long(nines(201))), tuple(api.Value{}, deep), tuple(deep, api.Value{}), tuple(text(strings.Repeat("a", 4097)), deep), tuple(deep, text(strings.Repeat("a", 4097))),
		cons("A", deep), cons("a", times(9, deep)...), tuple(times(17, deep)...), tuple(deep), cons("true", deep),
		// In a list that does not belong to the Kind.
		{L: row(deep)}, {Kind: 9, L: row(deep)}, {Kind: api.Bool, L: row(deep)}, {Kind: api.Int, L: row(deep)}, {Kind: api.Big, S: "1", L: row(deep)}, {Kind: api.Text, L: row(num(1), deep)}, {Kind: api.Text, L: times(1, nested(64, num(1)))},
	}
}

// generator makes the same values each time.
type generator struct{ *rand.Rand }

func newGenerator(seed uint64) generator { return generator{rand.New(rand.NewPCG(seed, 1))} }

// value makes a valid value. There are few different ones of small depths, so that equal ones come.
func (g generator) value(depth int) api.Value {
	kind := 1 + g.IntN(6)
	if depth == 1 && kind > 4 {
		kind -= 2
	}
	switch uint8(kind) {
	case api.Bool:
		return boolean(int64(g.IntN(2)))
	case api.Int:
		return num(pick(g, int64(0), 1, -1, 2, 10, math.MaxInt64, math.MinInt64))
	case api.Big:
		return long(pick(g, "0", "1", "-1", "2", "10", "-10", "9223372036854775808", nines(200), "-"+nines(200)))
	case api.Text:
		return text(pick(g, "", "a", "b", "1", "true", "a, b", "\"", "\\", "\n", "\\n", "\t", "\\x0a", "\x00", "\x7f", "\x80", "\xff", "()", "nil", "\", \""))
	case api.Tuple:
		if n := g.IntN(4); n > 1 {
			return tuple(g.values(n, depth-1)...)
		}
		return tuple()
	}
	return cons(pick(g, "a", "b", "nil", "cons", "m.a", "m.true"), g.values(g.IntN(3), depth-1)...)
}

func (g generator) values(n, depth int) []api.Value {
	l := make([]api.Value, n)
	for i := range l {
		l[i] = g.value(depth)
	}
	return l
}

func pick[T any](g generator, l ...T) T { return l[g.IntN(len(l))] }

// same tells whether two lists of values are the same to the last field (an empty list being nil or not).
func same(a, b []api.Value) bool {
	return slices.EqualFunc(a, b, func(x, y api.Value) bool {
		return x.Kind == y.Kind && x.N == y.N && x.S == y.S && same(x.L, y.L)
	})
}

// deepCopy is a list of values in memory of its own.
func deepCopy(l []api.Value) []api.Value {
	var copied []api.Value
	for _, v := range l {
		v.L = deepCopy(v.L)
		copied = append(copied, v)
	}
	return copied
}
