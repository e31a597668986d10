package code_test

import (
	"encoding/hex"
	"math"
	"math/rand/v2"
	"reflect"
	"slices"
	"strings"
	"testing"

	"corollary/api"
	"corollary/code"
	"corollary/value"
)

func boolean(n int64) api.Value                  { return api.Value{Kind: api.Bool, N: n} }
func num(n int64) api.Value                      { return api.Value{Kind: api.Int, N: n} }
func long(s string) api.Value                    { return api.Value{Kind: api.Big, S: s} }
func text(s string) api.Value                    { return api.Value{Kind: api.Text, S: s} }
func tuple(l ...api.Value) api.Value             { return api.Value{Kind: api.Tuple, L: l} }
func cons(name string, l ...api.Value) api.Value { return api.Value{Kind: api.Cons, S: name, L: l} }

// times is a list of n equal values.
func times(n int, v api.Value) []api.Value { return slices.Repeat([]api.Value{v}, n) }

// nested is a value of a depth, with an innermost one, in constructors and tuples by turns.
func nested(depth int, innermost api.Value) api.Value {
	v := innermost
	for i := range depth - 1 {
		if i%2 == 0 {
			v = cons("s", v)
		} else {
			v = tuple(v, num(0))
		}
	}
	return v
}

// endless is a value that contains itself.
func endless() api.Value {
	l := make([]api.Value, 2)
	l[0], l[1] = num(1), tuple(l...)
	return l[1]
}

// bytesOf are the bytes that stand in a text as pairs of hexadecimal digits, with spaces between them.
func bytesOf(t *testing.T, digits string) []byte {
	t.Helper()
	b, err := hex.DecodeString(strings.ReplaceAll(digits, " ", ""))
	if err != nil {
		t.Fatal(err)
	}
	return b
}

// numbers are at the ends of what so many own bytes hold, each before the next one.
func numbers() []int64 {
	l := []int64{-10, -3, -2, 1, 2, 10, 127, 128, 129, 300, -300, math.MaxInt64, math.MinInt64}
	for shift := 0; shift < 63; shift += 4 {
		n := int64(1) << shift
		l = append(l, n-1, n, n+1, -n-1, -n, -n+1)
	}
	slices.Sort(l)
	return slices.Compact(l)
}

// counts are the numbers that are counts, each before the next one.
func counts() []int {
	var l []int
	for _, n := range numbers() {
		if n >= 0 && n <= math.MaxInt32 {
			l = append(l, int(n))
		}
	}
	return append(l, math.MaxInt32-1, math.MaxInt32)
}

// texts are texts of the bytes that are written with more, or that stand at the ends, each before the next one.
func texts() []string {
	l := []string{"", strings.Repeat("\x00", 4096), strings.Repeat("\xff", 4095), strings.Repeat("\xff", 4096), strings.Repeat("a\x00", 2048), "module.name", "\u00e4"}
	pieces := []string{"\x00", "\x01", "a", "\xfe", "\xff"}
	for _, a := range pieces {
		for _, b := range pieces {
			for _, c := range pieces {
				l = append(l, a, a+b, a+b+c, a+a+b+c)
			}
		}
	}
	slices.Sort(l)
	return slices.Compact(l)
}

// bigs are integers of any size, each before the next one.
func bigs() []string {
	return []string{
		"-" + strings.Repeat("9", 200), "-1" + strings.Repeat("0", 199), "-" + strings.Repeat("9", 199), "-9223372036854775809", "-9223372036854775808", "-1000", "-300", "-299", "-256", "-255", "-100", "-99", "-11", "-10", "-9", "-5", "-2", "-1",
		"0", "1", "2", "5", "9", "10", "11", "99", "100", "255", "256", "299", "300", "1000", "9223372036854775807", "9223372036854775808", "18446744073709551615", strings.Repeat("9", 127), "1" + strings.Repeat("0", 127), strings.Repeat("9", 199), "1" + strings.Repeat("0", 199), strings.Repeat("9", 200),
	}
}

// values are valid ones, each before the next one.
func values() []api.Value {
	l := []api.Value{boolean(0), boolean(1)}
	for _, n := range numbers() {
		l = append(l, num(n))
	}
	for _, s := range bigs() {
		l = append(l, long(s))
	}
	for _, s := range texts() {
		l = append(l, text(s))
	}
	parts := []api.Value{boolean(1), num(-300), num(-1), num(0), num(256), long("-10"), long("-1"), long("0"), long("10"), text(""), text("\x00"), text("a"), text("\xff"), tuple(), tuple(num(1), num(2)), cons("a"), cons("a", num(1)), cons("aa")}
	l = append(l, tuple())
	for _, v := range parts {
		l = append(l, tuple(v, boolean(0)), tuple(v, num(-1)), tuple(v, v), tuple(v, v, boolean(0)), tuple(v, v, v), tuple(v, cons("z")))
	}
	l = append(l, tuple(times(15, num(7))...), tuple(times(16, num(7))...), nested(64, num(1)), nested(64, tuple()), nested(63, num(1)), nested(64, cons("z9")))
	name := strings.Repeat("n", 32)
	for _, s := range []string{"a", "a.b", "a.c", "aA", "a_", "aa", "b", "m.true", "m.false", "truer", "z", "a0", name, name + "." + name, "a." + name} {
		l = append(l, cons(s), cons(s, num(-1)), cons(s, num(1)), cons(s, num(1), cons("nil")), cons(s, times(7, cons(s))...), cons(s, times(8, cons(s))...))
	}
	slices.SortFunc(l, value.Cmp)
	return slices.CompactFunc(l, func(a, b api.Value) bool { return value.Cmp(a, b) == 0 })
}

// wrongNames are texts that no constructor may have as its name.
func wrongNames() []string {
	name := strings.Repeat("n", 32)
	return []string{"", "true", "false", "A", "_", "1", "a-", "a b", "a\x00", "\x00", "a\xff", ".", "a.", ".a", "a..b", "a.b.c", "a.B", "A.b", name + "n", name + "n.a", "a." + name + "n", name + "." + name + "n", strings.Repeat("a", 5000)}
}

// invalid are values that are not valid.
func invalid() []api.Value {
	l := []api.Value{
		{}, {N: 1}, {Kind: 7}, {Kind: 255}, {Kind: 7, L: times(2, num(1))}, boolean(2), boolean(-1), boolean(math.MinInt64), {Kind: api.Bool, S: "a"}, {Kind: api.Bool, L: times(2, num(1))},
		{Kind: api.Int, S: "1"}, {Kind: api.Int, L: times(2, num(1))}, {Kind: api.Text, N: 1}, {Kind: api.Text, L: times(2, num(1))}, {Kind: api.Tuple, N: 1}, {Kind: api.Tuple, S: "a"}, {Kind: api.Cons, N: 1, S: "a"}, {Kind: api.Big, N: 1, S: "1"}, {Kind: api.Big, S: "1", L: times(2, num(1))},
		text(strings.Repeat("a", 4097)), tuple(num(1)), tuple(tuple()), tuple(times(17, num(1))...), cons("a", times(9, num(1))...), tuple(num(1), tuple(num(1))), cons("a", cons("A")), tuple(num(1), boolean(2)), cons("a", long("01"), num(1)),
		nested(65, num(1)), nested(65, tuple()), nested(1000, num(1)), nested(64, boolean(2)), endless(), cons("a", endless()), {Kind: api.Int, L: endless().L},
	}
	for _, s := range []string{"", "-", "-0", "00", "01", "-01", "+1", "1b", " 1", "1.0", "--1", "a", "\xff", strings.Repeat("9", 201), "-" + strings.Repeat("9", 201), strings.Repeat("0", 200)} {
		l = append(l, long(s))
	}
	for _, s := range wrongNames() {
		l = append(l, cons(s), cons(s, num(1)))
	}
	return l
}

// sample is something that is written, with its bytes, and whether a reader reads it.
type sample struct {
	bytes []byte
	reads func(r *code.Reader) bool
}

// families are samples of each sort, each before the next one, by the names of the sorts.
func families() map[string][]sample {
	l := map[string][]sample{}
	for _, n := range numbers() {
		l["number"] = append(l["number"], sample{code.Num(nil, n), func(r *code.Reader) bool { return r.Num() == n && r.OK() }})
	}
	for _, n := range counts() {
		l["count"] = append(l["count"], sample{code.Count(nil, n), func(r *code.Reader) bool { return r.Count(n) == n && r.OK() }})
	}
	for _, s := range texts() {
		l["text"] = append(l["text"], sample{code.Str(nil, s), func(r *code.Reader) bool { return r.Str(len(s)) == s && r.OK() }})
	}
	for _, v := range []bool{false, true} {
		l["truth value"] = append(l["truth value"], sample{code.Flag(nil, v), func(r *code.Reader) bool { return r.Flag() == v && r.OK() }})
	}
	for _, v := range values() {
		l["value"] = append(l["value"], sample{code.Value(nil, v), func(r *code.Reader) bool { return same(r.Value(), v) && r.OK() }})
	}
	return l
}

// same tells whether two values are the same to the last field (an empty list being nil or not).
func same(a, b api.Value) bool {
	return a.Kind == b.Kind && a.N == b.N && a.S == b.S && slices.EqualFunc(a.L, b.L, same)
}

// followers are what may follow, from the least bytes to the greatest.
func followers() []string {
	return []string{"", "\x00", "\x00\x00", "\x01", "0", "a\x00\x00", "\x80", "\xff", "\xff\xff\xff\xff\xff\xff\xff\xff\xff"}
}

// joined are bytes, followed by others, in memory of their own.
func joined(a []byte, b string) []byte { return append(slices.Clone(a), b...) }

// requests are all that may be requested of a reader, by their names: each reads, and tells whether it returned the zero value.
func requests() map[string]func(r *code.Reader) bool {
	return map[string]func(r *code.Reader) bool{
		"Num":       func(r *code.Reader) bool { return r.Num() == 0 },
		"Count":     func(r *code.Reader) bool { return r.Count(math.MaxInt) == 0 },
		"Count(0)":  func(r *code.Reader) bool { return r.Count(0) == 0 },
		"Count(-1)": func(r *code.Reader) bool { return r.Count(-1) == 0 },
		"Str":       func(r *code.Reader) bool { return r.Str(math.MaxInt) == "" },
		"Str(0)":    func(r *code.Reader) bool { return r.Str(0) == "" },
		"Str(-1)":   func(r *code.Reader) bool { return r.Str(-1) == "" },
		"Flag":      func(r *code.Reader) bool { return !r.Flag() },
		"Value":     func(r *code.Reader) bool { return reflect.ValueOf(r.Value()).IsZero() },
	}
}

// generator makes the same things each time.
type generator struct{ *rand.Rand }

func newGenerator(seed uint64) generator { return generator{rand.New(rand.NewPCG(seed, 3))} }

// value makes a valid value. There are few different ones of small depths, so that equal ones come.
func (g generator) value(depth int) api.Value {
	kind := 1 + g.IntN(6)
	if depth == 1 {
		kind = min(kind, 4)
	}
	switch uint8(kind) {
	case api.Bool:
		return boolean(int64(g.IntN(2)))
	case api.Int:
		return num(pick(g, numbers()...))
	case api.Big:
		return long(pick(g, bigs()...))
	case api.Text:
		return text(pick(g, "", "a", "a\x00", "\x00", "\x00\xff", "\xff", "\x01", "b\x00\x00"))
	case api.Tuple:
		if n := g.IntN(4); n > 1 {
			return tuple(g.values(n, depth-1)...)
		}
		return tuple()
	}
	return cons(pick(g, "a", "b", "a.b", "aa"), g.values(g.IntN(3), depth-1)...)
}

func (g generator) values(n, depth int) []api.Value {
	l := make([]api.Value, n)
	for i := range l {
		l[i] = g.value(depth)
	}
	return l
}

func pick[T any](g generator, l ...T) T { return l[g.IntN(len(l))] }
