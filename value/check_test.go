package value_test

import (
	"strings"
	"testing"

	"corollary/api"
	"corollary/value"
)

func TestP2_1CheckTakesValidValues(t *testing.T) {
	for _, v := range increasing() {
		if e := value.Check(v); e != api.OK {
			t.Errorf("Check(%v): %v", v, e)
		}
	}
	g := newGenerator(1)
	for range 5000 {
		if v := g.value(4); value.Check(v) != api.OK {
			t.Errorf("Check(%v): %v", v, value.Check(v))
		}
	}
}

func TestP2_1CheckAtTheLimits(t *testing.T) {
	name := strings.Repeat("n", 32)
	for _, x := range []struct {
		what string
		v    api.Value
		want api.Errno
	}{
		{"depth 64, a number inside", nested(64, num(1)), api.OK}, {"depth 65, a number inside", nested(65, num(1)), api.ErrDeep},
		{"depth 64, an empty tuple inside", nested(64, tuple()), api.OK}, {"depth 65, an empty tuple inside", nested(65, tuple()), api.ErrDeep},
		{"depth 64, in the last value", tuple(num(1), nested(63, num(1))), api.OK}, {"depth 65, in the last value", tuple(num(1), nested(64, num(1))), api.ErrDeep},
		{"depth 64, in the first value", tuple(nested(63, num(1)), num(1)), api.OK}, {"depth 65, in the first value", tuple(nested(64, num(1)), num(1)), api.ErrDeep},
		{"200 digits", long(nines(200)), api.OK}, {"201 digits", long(nines(201)), api.ErrTooLarge},
		{"200 digits below 0", long("-" + nines(200)), api.OK}, {"201 digits below 0", long("-" + nines(201)), api.ErrTooLarge},
		{"4096 bytes", text(strings.Repeat("\xff", 4096)), api.OK}, {"4097 bytes", text(strings.Repeat("\xff", 4097)), api.ErrTooLarge},
		{"4096 bytes that are written with more", text(strings.Repeat("\"", 4096)), api.OK},
		{"a tuple of 0", tuple(), api.OK}, {"an empty tuple that is not nil", api.Value{Kind: api.Tuple, L: []api.Value{}}, api.OK}, {"a tuple of 1", tuple(num(1)), api.ErrForm},
		{"a tuple of 2", tuple(num(1), num(1)), api.OK}, {"a tuple of 16", tuple(times(16, num(1))...), api.OK}, {"a tuple of 17", tuple(times(17, num(1))...), api.ErrTooLarge},
		{"a constructor of 0", cons("a"), api.OK}, {"an empty list of arguments", api.Value{Kind: api.Cons, S: "a", L: []api.Value{}}, api.OK}, {"a constructor of 1", cons("a", num(1)), api.OK},
		{"a constructor of 8", cons("a", times(8, num(1))...), api.OK}, {"a constructor of 9", cons("a", times(9, num(1))...), api.ErrTooLarge},
		{"a name of 1 byte", cons("a"), api.OK}, {"a name of 32 bytes", cons(name), api.OK}, {"a name of 33 bytes", cons(name + "n"), api.ErrForm},
		{"two names of 32 bytes", cons(name + "." + name), api.OK}, {"a second name of 33 bytes", cons(name + "." + name + "n"), api.ErrForm}, {"a first name of 33 bytes", cons(name + "n." + name), api.ErrForm},
		{"the name true", cons("true"), api.ErrForm}, {"the name false", cons("false"), api.ErrForm}, {"true with an argument", cons("true", num(1)), api.ErrForm},
		{"true in a module", cons("m.true"), api.OK}, {"false in a module", cons("m.false", num(1)), api.OK}, {"a module true", cons("true.a"), api.OK}, {"true in a module false", cons("false.true"), api.OK},
		{"a name that begins with true", cons("truer"), api.OK}, {"a name like true", cons("tRUE"), api.OK}, {"a word of the language", cons("not"), api.OK},
		{"all letters", cons("abcdefghijklmnopqrstuvwxyz.zABCDEFGHIJKLMNOPQRSTUVWXYZ"), api.OK}, {"digits and _", cons("z_0123456789__"), api.OK},
		{"empty lists that are not nil", api.Value{Kind: api.Int, L: []api.Value{}}, api.OK},
	} {
		if e := value.Check(x.v); e != x.want {
			t.Errorf("%s: %v, not %v", x.what, e, x.want)
		}
	}
}

func TestP2_1CheckOfEveryKind(t *testing.T) {
	for kind := range 256 {
		want := api.ErrForm
		if k := uint8(kind); k == api.Bool || k == api.Int || k == api.Text || k == api.Tuple {
			want = api.OK
		}
		if e := value.Check(api.Value{Kind: uint8(kind)}); e != want {
			t.Errorf("Kind %d: %v", kind, e)
		}
	}
}

// TestP2_1CheckOfNamesWithEveryByte puts each byte at the beginning of a name, and behind it.
func TestP2_1CheckOfNamesWithEveryByte(t *testing.T) {
	const small, more = "abcdefghijklmnopqrstuvwxyz", "ABCDEFGHIJKLMNOPQRSTUVWXYZ0123456789_"
	wanted := func(ok bool) api.Errno {
		if ok {
			return api.OK
		}
		return api.ErrForm
	}
	for n := range 256 {
		c := string([]byte{byte(n)})
		first, later := strings.Contains(small, c), strings.Contains(small+more, c)
		for s, ok := range map[string]bool{c: first, c + "a": first, "m." + c: first, c + ".m": first, "a" + c + "b": later || c == ".", "ab" + c: later, "m.a" + c: later, "a" + c + ".m": later} {
			if e := value.Check(cons(s)); e != wanted(ok) {
				t.Errorf("the name %q: %v", s, e)
			}
		}
	}
}

func refuses(t *testing.T, l []api.Value, want api.Errno) {
	t.Helper()
	for i, v := range l {
		if e := value.Check(v); e != want {
			t.Errorf("value %d (Kind %d, N %d, %d bytes, %d values): %v, not %v", i, v.Kind, v.N, len(v.S), len(v.L), e, want)
		}
	}
}

func TestP2_1CheckRefusesWrongForms(t *testing.T) { refuses(t, wrongForms(), api.ErrForm) }

func TestP2_1CheckRefusesLongValues(t *testing.T) { refuses(t, tooLong(), api.ErrTooLarge) }

func TestP2_1CheckRefusesDeepValues(t *testing.T) { refuses(t, tooDeep(), api.ErrDeep) }

// TestErrorsOfTheFormComeBeforeLengths puts a wrong form before, behind, into and around what is too long.
func TestErrorsOfTheFormComeBeforeLengths(t *testing.T) {
	for _, v := range tooLong() {
		for _, wrong := range wrongForms() {
			if value.Check(tuple(v, v, v, nested(3, wrong))) == api.ErrDeep || value.Check(cons("a", v)) == api.ErrDeep {
				continue // the one inside is as deep as may be
			}
			refuses(t, []api.Value{tuple(v, wrong), tuple(wrong, v), cons("a", wrong, v), tuple(v, nested(2, wrong)), cons("a", times(9, wrong)...), tuple(times(17, wrong)...), tuple(append(times(16, num(1)), wrong)...)}, api.ErrForm)
			wrong.L = append(row(v, v), wrong.L...)
			if wrong.Kind != api.Tuple && wrong.Kind != api.Cons {
				refuses(t, row(wrong), api.ErrForm)
			}
		}
	}
	refuses(t, []api.Value{
		tuple(text(strings.Repeat("a", 4097))), cons("A", times(9, num(1))...), cons("true", times(9, num(1))...), {Kind: api.Tuple, S: "a", L: times(17, num(1))}, {Kind: api.Tuple, N: 1, L: times(17, num(1))}, {Kind: api.Cons, S: "a", N: 1, L: times(9, num(1))},
		{Kind: api.Text, S: strings.Repeat("a", 4097), N: 1}, {Kind: api.Text, S: strings.Repeat("a", 4097), L: times(2, num(1))}, {Kind: api.Big, S: nines(201), N: 1}, {Kind: api.Big, S: nines(201), L: times(2, num(1))},
		long("0" + nines(200)), long("-0" + nines(200)), long("+" + nines(201)), long(nines(201) + "b"), {Kind: api.Bool, L: times(17, num(1))}, {Kind: api.Int, S: strings.Repeat("a", 4097)}, {Kind: 9, S: strings.Repeat("a", 4097), L: times(100, num(1))},
	}, api.ErrForm)
}

// TestErrorsOfTheDepthComeFirst puts what is too deep before and behind everything else that may be wrong.
func TestErrorsOfTheDepthComeFirst(t *testing.T) {
	deep := nested(65, num(1))
	for _, v := range append(wrongForms(), tooLong()...) {
		refuses(t, []api.Value{tuple(v, deep), tuple(deep, v), cons("a", v, deep), nested(65, v), cons("a", times(9, deep)...), {Kind: v.Kind, N: v.N, S: v.S, L: append(row(deep), v.L...)}, {Kind: v.Kind, N: v.N, S: v.S, L: append(v.L[:len(v.L):len(v.L)], deep)}}, api.ErrDeep)
	}
}

// TestP2_1CheckReadsNoFurtherThanTheLength has wrong values behind the end of lists.
func TestP2_1CheckReadsNoFurtherThanTheLength(t *testing.T) {
	l := row(num(1), num(2), api.Value{}, nested(65, num(1)))
	for _, v := range []api.Value{tuple(l[:2]...), cons("a", l[:1]...), cons("a", l[:0]...), tuple(l[:0]...), {Kind: api.Int, L: l[:0]}, {Kind: api.Big, S: "1", L: l[:0]}} {
		if e := value.Check(v); e != api.OK {
			t.Errorf("Check(%v): %v", v, e)
		}
	}
}
