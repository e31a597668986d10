package cover_test

import (
	"strings"
	"testing"

	"corollary/api"
	"corollary/cover"
)

// ofEveryKind are values of each kind, no two of which are the same.
func ofEveryKind() []string {
	return []string{
		"true", "false", "0", "1", "-1", "9223372036854775807", "-9223372036854775808", "0b", "1b", "-1b", "9223372036854775807b", `""`, `"1"`, `"true"`, `"nil"`, `"a"`, `"ab"`,
		"()", "(1, 2)", "(1, 1)", "(2, 1)", "(1, 2, 3)", "((), (1, 2))", "((1, 2), ())", `("1", 2)`, "(1b, 2)", "nil", "none", "cons(1, nil)", "cons(1)", "cons(1, nil, nil)", "cons(1, 2)", "cons(nil, 1)", "some(1)", "some((1, 2))", "some(some(1))", "m.nil", "m.some(1)", "a.nil",
	}
}

// TestP12_1Literals has literals, and each other pattern that matches one value alone, against values of every kind.
func TestP12_1Literals(t *testing.T) {
	for _, p := range ofEveryKind() {
		checkMatch(t, p, p, "", "")
		for _, v := range ofEveryKind() {
			if v != p {
				checkNoMatch(t, p, "", v)
			}
		}
	}
}

// TestP12_1VariablesAndAny matches values of every kind.
func TestP12_1VariablesAndAny(t *testing.T) {
	for _, v := range ofEveryKind() {
		checkMatch(t, "X", v, "", "X = "+v)
		checkMatch(t, "_", v, "", "")
		checkMatch(t, "X", v, "Y = 1; Z = nil", "Y = 1; Z = nil; X = "+v)
		checkMatch(t, "_", v, "X = 5", "X = 5")
		checkMatch(t, "(X, _)", "("+v+", 1)", "", "X = "+v)
		checkMatch(t, "cons(_, Xs)", "cons(1, "+v+")", "", "Xs = "+v)
	}
}

// TestP12_1NumbersOfArguments has tuples and constructors with as many arguments as there are values, and with more and fewer.
func TestP12_1NumbersOfArguments(t *testing.T) {
	for n := range 17 {
		for k := range 17 {
			args, values := times(n, anything()), times(k, num(1))
			if _, ok := cover.Match(tup(args...), tuple(values...), nil); ok != (n == k && n != 1) {
				t.Errorf("a tuple of %d, %d values: %v", n, k, ok)
			}
			if _, ok := cover.Match(mk("c", args...), cons("c", values...), nil); ok != (n == k && n <= 8) {
				t.Errorf("c of %d, %d values: %v", n, k, ok)
			}
			if _, ok := cover.Match(mk("c", args...), cons("d", values...), nil); ok {
				t.Errorf("c of %d, d of %d", n, k)
			}
			if _, ok := cover.Match(mk("c", args...), tuple(values...), nil); ok {
				t.Errorf("c of %d, a tuple of %d", n, k)
			}
			if _, ok := cover.Match(tup(args...), cons("c", values...), nil); ok {
				t.Errorf("a tuple of %d, c of %d", n, k)
			}
		}
	}
}

// TestP12_1Nested has patterns within one another.
func TestP12_1Nested(t *testing.T) {
	checkMatch(t, "cons(X, cons(Y, Zs))", "cons(1, cons(2, cons(3, nil)))", "", "X = 1; Y = 2; Zs = cons(3, nil)")
	checkMatch(t, `((X, "a"), some(Y), _, true)`, `((1, "a"), some(nil), 5b, true)`, "", "X = 1; Y = nil")
	checkMatch(t, "((), ((), X))", "((), ((), ()))", "", "X = ()")
	checkMatch(t, "m.node(L, (X, _), m.leaf)", "m.node(m.leaf, (1, 2), m.leaf)", "", "L = m.leaf; X = 1")
	checkNoMatch(t, "cons(X, cons(Y, Zs))", "", "nil", "cons(1, nil)", "cons(1, 2)", "(1, cons(2, nil))", "cons(cons(1, nil), nil)")
	checkNoMatch(t, `((X, "a"), some(Y), _, true)`, "", `((1, "b"), some(nil), 5b, true)`, `((1, "a"), none, 5b, true)`, `((1, "a"), some(nil), 5b, false)`, `((1, "a"), some(nil, 1), 5b, true)`, `((1, "a", 1), some(nil), 5b, true)`, `(1, some(nil), 5b, true)`)
	checkNoMatch(t, "m.node(L, (X, _), m.leaf)", "", "m.node(m.leaf, (1, 2), m.tree)", "node(m.leaf, (1, 2), m.leaf)", "n.node(m.leaf, (1, 2), m.leaf)", "m.node(m.leaf, 1, m.leaf)", "m.node(m.leaf, (1, 2), leaf)")
}

// TestP12_1VariablesTwice has variables that occur twice and more often, at like values and at unlike ones.
func TestP12_1VariablesTwice(t *testing.T) {
	all := ofEveryKind()
	for i, v := range all {
		checkMatch(t, "(X, X)", "("+v+", "+v+")", "", "X = "+v)
		checkMatch(t, "(X, (Y, some(X)), X)", "("+v+", (1, some("+v+")), "+v+")", "", "X = "+v+"; Y = 1")
		for _, other := range append(all[:i:i], all[i+1:]...) {
			checkNoMatch(t, "(X, X)", "", "("+v+", "+other+")")
			checkNoMatch(t, "(X, (Y, some(X)), X)", "", "("+v+", (1, some("+v+")), "+other+")", "("+v+", (1, some("+other+")), "+v+")", "("+other+", (1, some("+v+")), "+v+")")
		}
	}
	checkMatch(t, "(X, Y, X, Y)", "(1, 2, 1, 2)", "", "X = 1; Y = 2")
	checkNoMatch(t, "(X, Y, X, Y)", "", "(1, 2, 2, 1)", "(1, 2, 1, 1)", "(2, 1, 1, 1)", "(1, 2, 1, (2, 2))")
	checkMatch(t, "(X, Y, Y)", "(1, 1, 1)", "", "X = 1; Y = 1")
	checkMatch(t, "(Xx, X, Xx)", "(1, 2, 1)", "", "Xx = 1; X = 2")
	checkMatch(t, "(_, _, (_, _))", "(1, 2, (3, 4))", "", "")
}

// TestP12_1BoundAhead has variables that are bound ahead, once and twice, to the value and to another one.
func TestP12_1BoundAhead(t *testing.T) {
	all := ofEveryKind()
	for i, v := range all {
		checkMatch(t, "X", v, "X = "+v, "X = "+v)
		checkMatch(t, "(Y, X)", "(1, "+v+")", "X = "+v, "X = "+v+"; Y = 1")
		for _, other := range append(all[:i:i], all[i+1:]...) {
			checkNoMatch(t, "X", "X = "+v, other)
			checkNoMatch(t, "(Y, some(X))", "X = "+v, "(1, some("+other+"))")
			checkMatch(t, "X", v, "X = "+v+"; X = "+other, "X = "+v+"; X = "+other)
			checkNoMatch(t, "X", "X = "+other+"; X = "+v, v)
			checkMatch(t, "X", v, "Y = 1; X = "+v+"; Z = 2; X = "+other+"; X = 77", "Y = 1; X = "+v+"; Z = 2; X = "+other+"; X = 77")
		}
	}
	checkMatch(t, "(X, Y, X)", "(1, 2, 1)", "Y = 2", "Y = 2; X = 1")
	checkMatch(t, "(X, Y, X)", "(1, 2, 1)", "X = 1; Y = 2", "X = 1; Y = 2")
	checkMatch(t, "(X, Y, X)", "(1, 2, 1)", "Z = 1; W = 2; Z = 3", "Z = 1; W = 2; Z = 3; X = 1; Y = 2")
	checkNoMatch(t, "(X, Y, X)", "Y = 1", "(1, 2, 1)")
	checkNoMatch(t, "(X, Y, X)", "X = 2", "(1, 2, 1)")
	checkMatch(t, "X", "2", "X = 2", "X = 2")
	checkNoMatch(t, "X", "X = 2", "1", "3", "2b", `"2"`)
}

// TestP12_1Order has what is bound in the order in which it occurs, from the left, outer ones not first.
func TestP12_1Order(t *testing.T) {
	checkMatch(t, "(Z, A, M)", "(1, 2, 3)", "", "Z = 1; A = 2; M = 3")
	checkMatch(t, "(some((C, B)), A, cons(E, D))", "(some((1, 2)), 3, cons(4, 5))", "", "C = 1; B = 2; A = 3; E = 4; D = 5")
	checkMatch(t, "(B, (A, (B, C)), A, D)", "(1, (2, (1, 3)), 2, 4)", "", "B = 1; A = 2; C = 3; D = 4")
	checkMatch(t, "(B, (A, (B, C)), A, D)", "(1, (2, (1, 3)), 2, 4)", "Z = 9; C = 3; Y = 8", "Z = 9; C = 3; Y = 8; B = 1; A = 2; D = 4")
	names := strings.Split("K J I H G F E D C B A Z Y X W V", " ")
	var args []api.Expr
	var values []api.Value
	for i, name := range names {
		args = append(args, variable(name))
		values = append(values, num(int64(i)))
	}
	l, ok := cover.Match(tup(args...), tuple(values...), nil)
	for i, b := range l {
		if !ok || len(l) != len(names) || b.Name != names[i] || !sameValue(b.Value, values[i]) {
			t.Errorf("%s", shownBounds(l))
		}
	}
}

// TestP12_1NamesOfBound has variables bound ahead whose names no variable of a pattern may have, and which are kept as they are.
func TestP12_1NamesOfBound(t *testing.T) {
	for _, name := range []string{"", "_", "x", "nil", "X.Y", "\xff", strings.Repeat("X", 33), "1"} {
		l, ok := cover.Match(pat("(X, _)"), val("(1, 2)"), []cover.Bound{bound(name, num(7)), bound(name, num(8))})
		if want := []cover.Bound{bound(name, num(7)), bound(name, num(8)), bound("X", num(1))}; !ok || !same(l, want) {
			t.Errorf("%q: %v, %v", name, l, ok)
		}
	}
}

// TestP12_1InvalidPatterns has patterns that are not valid, alone and in others that would match.
func TestP12_1InvalidPatterns(t *testing.T) {
	one := lit(num(1))
	for _, p := range invalidPatterns() {
		for _, v := range []api.Value{num(1), text("a"), tuple(), tuple(num(1), num(2)), cons("nil"), cons("some", num(1)), valueOf(p)} {
			for _, l := range [][]cover.Bound{nil, {bound("X", num(1)), bound(p.Name, v)}} {
				if got, ok := cover.Match(p, v, l); ok || len(got) != 0 {
					t.Errorf("%+v matches: %v", p, got)
				}
				if got, ok := cover.Match(tup(p, one), tuple(v, num(1)), l); ok || len(got) != 0 {
					t.Errorf("%+v in a tuple matches: %v", p, got)
				}
				if got, ok := cover.Match(mk("some", tup(one, p)), cons("some", tuple(num(1), v)), l); ok || len(got) != 0 {
					t.Errorf("%+v in a constructor matches: %v", p, got)
				}
			}
		}
	}
}

// invalidPatterns are not valid.
func invalidPatterns() []api.Expr {
	one := lit(num(1))
	wrong := []api.Expr{
		{}, {Kind: 9}, {Kind: 255}, {Kind: api.Call, Name: "+", Args: row(one, one)}, {Kind: api.Call, Name: "neg", Args: row(one)}, {Kind: api.Field, Name: "x", Args: row(one)}, {Kind: api.If, Args: row(lit(boolean(1)), one, one)},
		lit(api.Value{}), lit(tuple()), lit(tuple(num(1), num(2))), lit(cons("nil")), lit(boolean(2)), lit(long("01")), lit(long(strings.Repeat("9", 201))), lit(text(strings.Repeat("a", 4097))), lit(api.Value{Kind: api.Int, S: "1"}), lit(api.Value{Kind: api.Int, L: []api.Value{num(1)}}), lit(api.Value{Kind: 7}),
		{Kind: api.Lit, Name: "X", Value: num(1)}, {Kind: api.Lit, Value: num(1), Args: row(one)},
		variable(""), variable("x"), variable("_"), variable("X.y"), variable("X "), variable(strings.Repeat("X", 33)), {Kind: api.Var, Name: "X", Value: num(1)}, {Kind: api.Var, Name: "X", Args: row(one)},
		{Kind: api.Any, Name: "X"}, {Kind: api.Any, Value: num(1)}, {Kind: api.Any, Args: row(one)},
		tup(one), tup(times(17, one)...), {Kind: api.Tup, Name: "x", Args: row(one, one)}, {Kind: api.Tup, Value: num(1), Args: row(one, one)},
		mk(""), mk("X"), mk("true"), mk("int"), mk("m.int"), mk("a.b.c"), mk(strings.Repeat("a", 33)), mk("some", times(9, one)...), {Kind: api.Make, Name: "some", Value: num(1), Args: row(one)},
	}
	return append(wrong, tup(one, mk("some", tup(one, tup(one)))), mk("cons", variable("X"), mk("cons", variable("x"), mk("nil"))))
}

// TestP12_1InvalidValues has values that are not valid, alone and in others that would be matched.
func TestP12_1InvalidValues(t *testing.T) {
	for _, v := range invalidValues() {
		for _, p := range []api.Expr{anything(), variable("X"), lit(v), tup(), mk(v.S), patternOf(v)} {
			for _, l := range [][]cover.Bound{nil, {bound("X", v)}} {
				if got, ok := cover.Match(p, v, l); ok || len(got) != 0 {
					t.Errorf("%+v is matched: %v", v, got)
				}
				if got, ok := cover.Match(tup(p, anything()), tuple(v, num(1)), l); ok || len(got) != 0 {
					t.Errorf("%+v in a tuple is matched: %v", v, got)
				}
				if got, ok := cover.Match(mk("some", p), cons("some", v), l); ok || len(got) != 0 {
					t.Errorf("%+v in a constructor is matched: %v", v, got)
				}
				if got, ok := cover.Match(tup(anything(), p), tuple(cons("some", v), num(1)), l); ok || len(got) != 0 {
					t.Errorf("%+v where all is matched: %v", v, got)
				}
			}
		}
	}
}

// invalidValues are not valid.
func invalidValues() []api.Value {
	return []api.Value{
		{}, {Kind: 7}, {Kind: 255}, boolean(2), boolean(-1), {Kind: api.Bool, S: "true"}, {Kind: api.Int, S: "1"}, {Kind: api.Int, L: []api.Value{num(1)}}, long(""), long("01"), long("1b"), long(strings.Repeat("9", 201)), {Kind: api.Big, S: "1", N: 1},
		text(strings.Repeat("a", 4097)), {Kind: api.Text, S: "a", N: 1}, {Kind: api.Text, L: []api.Value{num(1)}}, tuple(num(1)), tuple(times(17, num(1))...), {Kind: api.Tuple, S: "a"}, {Kind: api.Tuple, N: 1},
		cons(""), cons("true"), cons("X"), cons("a.b.c"), cons("some", times(9, num(1))...), {Kind: api.Cons, S: "nil", N: 1}, tuple(num(1), api.Value{}),
	}
}

// TestP12_1Depths has patterns and values of as many levels as there may be, and of more.
func TestP12_1Depths(t *testing.T) {
	for levels := 1; levels < 130; levels++ {
		for _, wrap := range []func(p api.Expr, v api.Value) (api.Expr, api.Value){
			func(p api.Expr, v api.Value) (api.Expr, api.Value) { return mk("s", p), cons("s", v) },
			func(p api.Expr, v api.Value) (api.Expr, api.Value) { return tup(anything(), p), tuple(num(1), v) },
		} {
			for _, innermost := range []api.Expr{variable("X"), anything(), lit(num(7))} {
				p, v := innermost, num(7)
				for range levels - 1 {
					p, v = wrap(p, v)
				}
				_, ok := cover.Match(p, v, nil)
				if ok != (levels <= 64) {
					t.Errorf("%d levels: %v", levels, ok)
				}
				if _, ok := cover.Match(anything(), v, nil); ok != (levels <= 64) {
					t.Errorf("a value of %d levels: %v", levels, ok)
				}
			}
		}
	}
}

// TestP12_1LongestValues has values at the limits of what is valid.
func TestP12_1LongestValues(t *testing.T) {
	for _, v := range []api.Value{long(strings.Repeat("9", 200)), long("-" + strings.Repeat("9", 200)), text(strings.Repeat("a", 4096)), tuple(times(16, num(1))...), cons("c", times(8, num(1))...), cons(strings.Repeat("c", 32) + "." + strings.Repeat("d", 32))} {
		if _, ok := cover.Match(patternOf(v), v, nil); !ok {
			t.Errorf("%+v is not matched", v)
		}
		if l, ok := cover.Match(variable(strings.Repeat("X", 32)), v, nil); !ok || len(l) != 1 || !sameValue(l[0].Value, v) {
			t.Errorf("%+v: %v", v, l)
		}
	}
	// A value may have a constructor with a name that is reserved, or without a declaration; a pattern may not have that name.
	if l, ok := cover.Match(variable("X"), cons("int"), nil); !ok || len(l) != 1 {
		t.Errorf("int: %v", l)
	}
}

// TestP12_1BoundToInvalid has a variable bound ahead to what is not valid: no value is the same, but it may be bound.
func TestP12_1BoundToInvalid(t *testing.T) {
	for _, v := range invalidValues() {
		before := []cover.Bound{bound("X", v)}
		if l, ok := cover.Match(variable("X"), num(1), before); ok || len(l) != 0 {
			t.Errorf("%+v: %v", v, l)
		}
		if l, ok := cover.Match(variable("Y"), num(1), before); !ok || !same(l, []cover.Bound{bound("X", v), bound("Y", num(1))}) {
			t.Errorf("%+v: %v, %v", v, l, ok)
		}
		if l, ok := cover.Match(variable("X"), num(1), []cover.Bound{bound("X", num(1)), bound("X", v)}); !ok || !same(l, []cover.Bound{bound("X", num(1)), bound("X", v)}) {
			t.Errorf("%+v: %v, %v", v, l, ok)
		}
	}
	for _, v := range []api.Value{{Kind: api.Int, N: 1, S: "1"}, {Kind: api.Int, N: 1, L: []api.Value{num(1)}}, {Kind: api.Big, N: 1}, {Kind: api.Bool, N: 1}} {
		if _, ok := cover.Match(variable("X"), num(1), []cover.Bound{bound("X", v)}); ok {
			t.Errorf("%+v is as 1", v)
		}
	}
}
