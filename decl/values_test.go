package decl_test

import (
	"slices"
	"strings"
	"testing"

	"corollary/api"
	"corollary/decl"
)

const several = `
	type list('a) = nil | cons(head: 'a, tail: list('a))
	type pair('b, 'a) = pair('a, 'b) | twice('a, 'a) | none
	type color = red | green | mixed(color, int, color)
	type tree('a, 'b) = leaf(x: 'a) | node(x: tree('b, 'a), y: ('a, 'b), z: tree(int, 'b))
	type ghost('a) = ghost
	type closed('a) = closed(x: list(pair(int, text)), y: pair('a, list(int)), z: ('a, ('a, list('a))))
	type wide('a, 'b, 'c, 'd, 'e, 'f, 'g, 'h) = wide('h, 'g, 'f, 'e, 'd, 'c, 'b, 'a)
	type list2('a) = nil2 | cons2(list('a), list2('a))
	`

func TestP10_2Well(t *testing.T) {
	x := tableOf(t, several+"rel r(x: int)")
	checkWell(t, x, true, "bool", "int", "big", "text", "tuple", "tuple(int, text)", "list(int)", "list(list(list(big)))", "pair(int, list(tuple))", "color", "tuple(color, tuple(list(color), ghost(ghost(int))))", "wide(int, int, int, int, int, int, int, list(color))", "list(tuple(int, tuple(text, pair(color, bool))))")
	checkWell(t, x, false, "", "nope", "list", "list(int, int)", "color(int)", "int(int)", "bool(bool)", "big(int)", "text(text)", "tuple(int)", "list(nope)", "list(list)", "tuple(int, nope)", "tuple(int, tuple(int))", "pair(int)", "r", "x", "nil", "cons", "m", "m.list(int)", "Int", "list(int(int))", "wide(int)", "list(tuple(color(int), int))", "pair(int, pair(int, int, int))")
	checkWell(t, x, false, "'a", "'", "'b", "'nope", "list('a)", "tuple('a, int)", "pair(int, 'b)", "list(list('a))", "ghost('a)", "tuple(int, tuple(int, 'a))", "list(tuple('a, 'a))", "'a(int)", "pair(list('b), int)")
	for n := range 40 {
		if got := x.Well(typ("tuple", times(n, typ("int"))...)); got != (n != 1 && n <= 16) {
			t.Errorf("a tuple of %d: %v", n, got)
		}
	}
	for _, last := range []string{"int", "tuple", "color"} {
		for levels := 1; levels < 130; levels++ {
			if got := x.Well(nested(levels, "list", typ(last))); got != (levels <= 64) {
				t.Errorf("%d levels: %v", levels, got)
			}
			if got := x.Well(nestedTuple(levels, typ(last))); got != (levels <= 64) {
				t.Errorf("%d levels of tuples: %v", levels, got)
			}
		}
	}
}

// TestP10_2WellOfNothing has a module that declares nothing, and no table.
func TestP10_2WellOfNothing(t *testing.T) {
	var none *decl.Table
	x := tableOf(t, "")
	for _, s := range []string{"bool", "int", "big", "text", "tuple", "tuple(int, tuple(text, big, bool))", "", "nope", "'a", "list(int)", "tuple(int)"} {
		if want := !slices.Contains([]string{"", "nope", "'a", "list(int)", "tuple(int)"}, s); x.Well(of(s)) != want {
			t.Errorf("Well(%s): %v", s, !want)
		}
		if none.Well(of(s)) {
			t.Errorf("nil: Well(%s)", s)
		}
		for _, v := range vals("1", "true", "1b", "\"\"", "()", "(1, (\"\", 1b, true))", "nil") {
			if none.Is(v, of(s)) {
				t.Errorf("nil: Is(%s, %s)", textOf(v), s)
			}
		}
	}
	checkIs(t, x, []string{"(1, (\"\", 1b, true))"}, []string{"tuple(int, tuple(text, big, bool))"}, []string{"tuple(int, text)", "int", "tuple"})
}

// ofEveryKind are valid values, by types that only they have.
func ofEveryKind() map[string][]string {
	return map[string][]string{
		"bool": {"true", "false"}, "int": {"0", "1", "-1", "9223372036854775807", "-9223372036854775808"}, "big": {"0b", "1b", "-1b", "9223372036854775808b"}, "text": {`""`, `"1"`, `"true"`, `"nil"`, `"a, b"`},
		"tuple": {"()"}, "tuple(int, int)": {"(1, 2)"}, "tuple(int, text)": {`(1, "a")`}, "tuple(int, int, int)": {"(1, 2, 3)"}, "tuple(tuple, tuple(int, big))": {"((), (1, 2b))"}, "tuple(tuple(int, big), tuple)": {"((1, 2b), ())"},
		"color": {"red", "green", "mixed(red, 1, mixed(green, -1, red))"}, "list(int)": {"cons(1, nil)", "cons(1, cons(2, cons(3, nil)))"}, "list(text)": {`cons("a", nil)`}, "list(color)": {"cons(red, cons(mixed(red, 1, red), nil))"},
		"list(list(int))": {"cons(cons(1, nil), nil)", "cons(nil, cons(cons(1, nil), nil))"}, "list(tuple(int, bool))": {"cons((1, true), nil)"}, "pair(int, text)": {`pair("a", 1)`}, "pair(text, int)": {`pair(1, "a")`},
		"tree(int, text)": {`node(leaf("a"), (1, "b"), leaf(2))`, `node(node(leaf(1), ("a", 1), leaf(2)), (1, "a"), node(leaf("b"), (1, "c"), leaf(3)))`},
		"closed(big)":     {`closed(cons(pair("a", 1), nil), twice(cons(1, nil), nil), (1b, (2b, nil)))`, `closed(nil, pair(nil, 1b), (1b, (1b, cons(1b, nil))))`},
		"wide(int, text, bool, big, tuple, color, list(int), list(bool))": {`wide(cons(true, nil), cons(1, nil), red, (), 1b, true, "a", 1)`},
		"list2(bool)": {"cons2(cons(true, nil), nil2)", "cons2(nil, cons2(cons(true, nil), nil2))"},
	}
}

// TestP10_2IsOfEveryKind has values of each kind against types of each kind.
func TestP10_2IsOfEveryKind(t *testing.T) {
	x := tableOf(t, several)
	for name, values := range ofEveryKind() {
		for other := range ofEveryKind() {
			if other == name {
				checkIs(t, x, values, []string{name}, nil)
			} else {
				checkIs(t, x, values, nil, []string{other})
			}
		}
	}
}

// TestP10_2IsOfManyTypes has values that have many types.
func TestP10_2IsOfManyTypes(t *testing.T) {
	x := tableOf(t, several)
	checkIs(t, x, []string{"nil"}, []string{"list(int)", "list(text)", "list(list(color))"}, []string{"list", "list(nope)", "list('a)", "list(int, int)", "list2(int)", "nil", "int", "tuple", "color"})
	checkIs(t, x, []string{"cons(nil, nil)"}, []string{"list(list(int))", "list(list(list(color)))"}, []string{"list(int)", "list(color)", "list(list2(int))", "list"})
	checkIs(t, x, []string{"ghost"}, []string{"ghost(int)", "ghost(ghost(int))", "ghost(tuple(int, text))"}, []string{"ghost", "ghost('a)", "ghost(nope)", "ghost(tuple(int))"})
	checkIs(t, x, []string{"twice(1, 2)"}, []string{"pair(int, int)", "pair(text, int)", "pair(list(color), int)"}, []string{"pair(int, text)", "pair(int, list(color))"})
	checkIs(t, x, []string{"twice(1, true)", "twice(1)", "twice(1, 1, 1)", "twice"}, nil, []string{"pair(int, int)", "pair(bool, int)", "pair(int, bool)"})
	checkIs(t, x, []string{"leaf(1)"}, []string{"tree(int, text)", "tree(int, int)"}, []string{"tree(text, int)"})
	checkIs(t, x, []string{"node(leaf(1), (true, 2), leaf(3))", "node(leaf(1), (true, 2), node(leaf(3), (4, 5), leaf(6)))"}, []string{"tree(bool, int)"}, []string{"tree(int, bool)", "tree(bool, bool)", "tree(int, int)"})
	checkIs(t, x, []string{"node(leaf(1), (true, 2), leaf(true))", "node(leaf(true), (true, 2), leaf(3))", "node(leaf(1), (2, true), leaf(3))", "node(leaf(1), (true, 2), node(leaf(true), (4, 5), leaf(6)))"}, nil, []string{"tree(bool, int)"})
}

// TestP10_2NumbersOfValues has constructors and tuples with too few values, and too many.
func TestP10_2NumbersOfValues(t *testing.T) {
	x := tableOf(t, several)
	for n := range 12 {
		values := times(n, num(1))
		for name, want := range map[string]struct {
			s string
			n int
		}{"nil": {"list(int)", 0}, "leaf": {"tree(int, int)", 1}, "twice": {"pair(int, int)", 2}, "wide": {"wide(int, int, int, int, int, int, int, int)", 8}} {
			if got := x.Is(cons(name, values...), of(want.s)); got != (n == want.n) {
				t.Errorf("%s with %d values: %v", name, n, got)
			}
		}
		for _, args := range []int{0, 2, 3, 4, 11} {
			if got := x.Is(tuple(values...), typ("tuple", times(args, typ("int"))...)); got != (n == args) {
				t.Errorf("%d values, %d Args: %v", n, args, got)
			}
		}
	}
	if !x.Is(tuple(times(16, num(1))...), typ("tuple", times(16, typ("int"))...)) || x.Is(tuple(times(17, num(1))...), typ("tuple", times(17, typ("int"))...)) {
		t.Error("16 and 17 values")
	}
	many := api.Module{Types: []api.TypeDef{{Name: "t", Cons: []api.ConsDef{{Name: "c", Fields: times(9, api.FieldDef{Type: typ("int")})}, {Name: "d", Fields: times(8, api.FieldDef{Type: typ("int")})}}}}}
	y := made(t, many)
	if y.Is(cons("c", times(9, num(1))...), typ("t")) || y.Is(cons("c", times(8, num(1))...), typ("t")) || !y.Is(cons("d", times(8, num(1))...), typ("t")) {
		t.Error("9 values")
	}
}

// TestP10_2InvalidValues has values that are not valid, alone and in others that are of the type.
func TestP10_2InvalidValues(t *testing.T) {
	x := tableOf(t, several)
	nines := strings.Repeat("9", 200)
	for name, values := range map[string][]api.Value{
		"bool": {boolean(2), boolean(-1), {Kind: api.Bool, S: "a"}, {Kind: api.Bool, L: vals("1")}}, "int": {{Kind: api.Int, S: "1"}, {Kind: api.Int, L: vals("1")}},
		"big": {long(""), long("01"), long("-0"), long("+1"), long("1b"), long(nines + "9"), {Kind: api.Big, S: "1", N: 1}}, "text": {text(strings.Repeat("a", 4097)), {Kind: api.Text, N: 1}, {Kind: api.Text, L: vals("1")}},
		"tuple": {{Kind: api.Tuple, N: 1}, {Kind: api.Tuple, S: "a"}, {}, {Kind: 7}, {Kind: 255}}, "color": {{Kind: api.Cons, S: "red", N: 1}, cons("true"), cons(""), cons("Red"), cons("nope"), cons("m.red"), cons("a.b.c")},
	} {
		for _, v := range values {
			if x.Is(v, of(name)) || x.Is(tuple(v, v), typ("tuple", of(name), of(name))) || x.Is(cons("cons", v, cons("nil")), typ("list", of(name))) || x.Is(tuple(num(1), v), typ("tuple", typ("int"), of(name))) {
				t.Errorf("%+v has the type %s", v, name)
			}
		}
	}
	if !x.Is(long(nines), typ("big")) || !x.Is(text(strings.Repeat("a", 4096)), typ("text")) || !x.Is(api.Value{Kind: api.Int, L: []api.Value{}}, typ("int")) || !x.Is(api.Value{Kind: api.Cons, S: "red", L: []api.Value{}}, typ("color")) {
		t.Error("values at the limits")
	}
}

// TestP10_2NamesOfConstructors has constructors with names that no value may have, and others with names that one may.
func TestP10_2NamesOfConstructors(t *testing.T) {
	name := strings.Repeat("n", 32)
	for s, want := range map[string]bool{"a": true, "m.a": true, name + "." + name: true, "m.true": true, "int": true, "not": true, "": false, "A": false, "true": false, "false": false, "a.b.c": false, "'a": false, "a b": false, name + "n": false, "\xff": false} {
		x := made(t, api.Module{Types: []api.TypeDef{{Name: "t", Cons: []api.ConsDef{{Name: s}}}}})
		if got := x.Is(cons(s), typ("t")); got != want {
			t.Errorf("%q: %v", s, got)
		}
		if c, there := x.Cons(s); !there || c.Type != "t" {
			t.Errorf("Cons(%q): %v, %v", s, c, there)
		}
	}
}

// TestP10_2Depths has values and types as deep as may be, and one level deeper.
func TestP10_2Depths(t *testing.T) {
	x := tableOf(t, "type s = z | s(s) type box('a) = box('a) type deep('a) = deep((int, (int, (int, (int, 'a)))))")
	for levels := 1; levels < 130; levels++ {
		v := cons("z")
		for range levels - 1 {
			v = cons("s", v)
		}
		if got := x.Is(v, typ("s")); got != (levels <= 64) {
			t.Errorf("%d levels: %v", levels, got)
		}
		v = num(1)
		for range levels - 1 {
			v = cons("box", v)
		}
		if got := x.Is(v, nested(levels, "box", typ("int"))); got != (levels <= 64) {
			t.Errorf("%d levels of boxes: %v", levels, got)
		}
		if x.Is(v, nested(levels+1, "box", typ("int"))) || x.Is(v, nested(levels, "box", typ("big"))) || levels > 1 && x.Is(v, nested(levels-1, "box", typ("int"))) {
			t.Errorf("%d levels of boxes have another type", levels)
		}
		v = num(1)
		for range levels - 1 {
			v = tuple(num(1), v)
		}
		if got := x.Is(v, nestedTuple(levels, typ("int"))); got != (levels <= 64) {
			t.Errorf("%d levels of tuples: %v", levels, got)
		}
	}
	// What a parameter stands for may be deep, and what it is in, too: together they are deeper than a type may be, but no value is.
	m := api.Module{Types: []api.TypeDef{{Name: "t", Params: []string{"'a"}, Cons: []api.ConsDef{{Name: "none"}, {Name: "c", Fields: []api.FieldDef{{Type: nestedTuple(64, typ("'a"))}}}, {Name: "d", Fields: []api.FieldDef{{Type: typ("t", typ("'a"))}, {Type: typ("'a")}}}}}}}
	y := made(t, m)
	v := num(1)
	for range 62 {
		v = tuple(num(1), v)
	}
	a := typ("t", nestedTuple(63, typ("int")))
	if !y.Is(cons("none"), a) || !y.Is(cons("d", cons("none"), v), a) || y.Is(cons("d", cons("none"), v.L[1]), a) || y.Is(cons("c", v), a) || y.Is(cons("d", cons("d", cons("none"), v), v), a) {
		t.Error("deep ones")
	}
}

// TestP10_2ParametersTwice has a parameter twice among those of a type: the first one counts.
func TestP10_2ParametersTwice(t *testing.T) {
	x := made(t, api.Module{Types: []api.TypeDef{{Name: "t", Params: []string{"'b", "'a", "'a", "'b"}, Cons: []api.ConsDef{{Name: "c", Fields: []api.FieldDef{{Type: typ("'a")}, {Type: typ("'b")}}}}}}})
	for _, s := range []string{"t(int, text, big, bool)", "t(int, text, int, text)", "t(int, text, text, int)"} {
		checkIs(t, x, []string{`c("a", 1)`}, []string{s}, nil)
		checkIs(t, x, []string{`c(1, "a")`, "c(1b, true)", "c(1b, 1)", `c("a", true)`}, nil, []string{s})
	}
}

// TestP10_2ParametersOfOthers has parameters with the same names in several types, each of which stands for something else.
func TestP10_2ParametersOfOthers(t *testing.T) {
	x := tableOf(t, "type a('a, 'b) = a('a, b('b, 'a), 'b, 'a) | an type b('b, 'a) = b('a, c('b), 'b, a('b, 'a)) | bn type c('x) = c('x, a(text, 'x), 'x)")
	checkIs(t, x, []string{`a(1, b(1, c(true, an, false), true, an), true, 2)`, `a(1, b(1, c(true, a("a", b("b", c(true, an, true), false, an), true, "c"), false), true, a(true, bn, 3, false)), true, 2)`}, []string{"a(int, bool)"}, []string{"a(bool, int)", "a(int, int)", "a(bool, bool)"})
	checkIs(t, x, []string{`a(1, b(true, c(1, an, 2), 3, an), true, 2)`, `a(1, bn, 1, 2)`, `a(1, b(1, c(true, a(true, bn, "a", false), true), true, an), true, 2)`, `a(1, b(1, c(true, an, false), true, a(1, bn, true, 1)), true, 2)`}, nil, []string{"a(int, bool)"})
}

// TestP10_2WhatHasNoValues has types that are inhabited as the chapter says, though no value has them.
func TestP10_2WhatHasNoValues(t *testing.T) {
	x := tableOf(t, "type box('a) = box('a) type t = c(box(t))")
	checkWell(t, x, true, "t", "box(t)")
	v := cons("c", cons("box", num(1)))
	for range 40 {
		if x.Is(v, typ("t")) {
			t.Errorf("%s has the type t", textOf(v))
		}
		v = cons("c", cons("box", v))
	}
}
