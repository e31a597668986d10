package cover_test

import (
	"slices"
	"strings"
	"testing"

	"corollary/api"
	"corollary/cover"
	"corollary/decl"
)

// checkFits requires which of some types, as texts, patterns have, as texts.
func checkFits(t *testing.T, x *decl.Table, patterns, has, hasNot []string) {
	t.Helper()
	for _, p := range patterns {
		for _, name := range has {
			if !cover.Fits(x, pat(p), of(name)) {
				t.Errorf("%s has not the type %s", p, name)
			}
		}
		for _, name := range hasNot {
			if cover.Fits(x, pat(p), of(name)) {
				t.Errorf("%s has the type %s", p, name)
			}
		}
	}
}

// patternsOfTypes are patterns by types that only they have.
func patternsOfTypes() map[string][]string {
	return map[string][]string{
		"bool": {"true", "false"}, "int": {"0", "-1", "9223372036854775807"}, "big": {"0b", "-1b"}, "text": {`""`, `"a"`, `"true"`},
		"tuple": {"()"}, "tuple(int, int)": {"(1, 2)"}, "tuple(int, text)": {`(1, "a")`}, "tuple(int, bool)": {"(_, false)", "(1, true)"}, "tuple(int, int, int)": {"(1, 2, 3)"}, "tuple(tuple, tuple(int, big))": {"((), (1, 2b))", "((), (_, 2b))", "((), (1, 3b))"},
		"color": {"red", "green"}, "list(int)": {"cons(1, nil)", "cons(X, cons(Y, cons(3, nil)))", "cons(1, _)"}, "list(color)": {"cons(red, nil)", "cons(_, cons(blue, _))"}, "list(list(int))": {"cons(cons(1, _), nil)", "cons(nil, cons(cons(1, nil), _))"},
		"nat": {"z", "s(s(_))", "s(N)"}, "pt": {"pt(_, _)", `pt(1, "a")`, "pt(X, X)"}, "tree(bool)": {"node(_, true, _)", "node(leaf, _, node(leaf, false, leaf))"}, "alt(text, int)": {`step(1, step("a", _))`, `step(_, step(_, step(1, step("a", done))))`, `step(1, step(_, step(_, step("a", done))))`},
		"box(box(int))": {"box(box(1))"}, "flip": {"flip(X, true)"}, "opt(tuple(int, list(text)))": {`some((_, cons("a", _)))`}, "void": {"void(_)", "void(box(_))", "void(box(void(X)))"},
	}
}

// TestP12_1FitsOfEveryKind has patterns of each kind against types of each kind.
func TestP12_1FitsOfEveryKind(t *testing.T) {
	x := declaredTable(t)
	for name, patterns := range patternsOfTypes() {
		for other := range patternsOfTypes() {
			if other == name {
				checkFits(t, x, patterns, []string{name}, nil)
			} else {
				checkFits(t, x, patterns, nil, []string{other})
			}
		}
		checkFits(t, x, []string{"_", "X"}, []string{name}, nil)
		checkFits(t, x, patterns, nil, []string{"", "nope", "'a", "list", "tuple(int)", "list('a)", "int(int)"})
	}
}

// TestP12_1FitsManyTypes has patterns that have many types.
func TestP12_1FitsManyTypes(t *testing.T) {
	x := declaredTable(t)
	checkFits(t, x, []string{"nil", "cons(_, nil)", "cons(X, Y)", "cons(_, cons(_, _))"}, []string{"list(int)", "list(text)", "list(list(color))", "list(tuple)", "list(void)"}, []string{"list", "list(nope)", "list('a)", "list(int, int)", "nil", "int", "tuple", "opt(int)", "tree(int)"})
	checkFits(t, x, []string{"cons(nil, nil)"}, []string{"list(list(int))", "list(list(list(color)))"}, []string{"list(int)", "list(color)", "list(opt(int))"})
	checkFits(t, x, []string{"ghost", "spook(_)", "spook(spook(ghost))"}, []string{"ghost(int)", "ghost(ghost(int))", "ghost(tuple(int, text))", "ghost(void)"}, []string{"ghost", "ghost('a)", "ghost(nope)", "ghost(tuple(int))"})
	checkFits(t, x, []string{"(_, _)", "(X, X)"}, []string{"tuple(int, int)", "tuple(int, text)", "tuple(void, tuple)"}, []string{"tuple", "tuple(int, int, int)", "tuple(int)", "tuple(int, 'a)", "list(int)", "pt"})
	checkFits(t, x, []string{"(X, X)", "((X, 1), X)", "(_, X)"}, nil, []string{"int", "pt", "tuple", "tuple(int, int, int)"})
	checkFits(t, x, []string{"done", "step(_, done)", "step(1, done)", "step(X, step(_, step(2, _)))"}, []string{"alt(int, int)", "alt(text, int)", "alt(list(int), int)"}, []string{"alt", "alt(int)"})
	checkFits(t, x, []string{"step(1, _)", "step(1, step(2, _))"}, []string{"alt(int, int)"}, []string{"alt(int, text)"})
	checkFits(t, x, []string{"step(1, step(2, _))"}, nil, []string{"alt(text, int)", "alt(int, text)"})
	checkFits(t, x, []string{"same((1, _))", "same((_, 1))", "same((X, 1))"}, []string{"same(int)"}, []string{"same(text)", "same(tuple(int, int))"})
	checkFits(t, x, []string{"left(1)", "left(X)"}, []string{"either(int, text)", "either(int, int)", "either(int, void)"}, nil)
	checkFits(t, x, []string{"left(1)", "right(\"a\")"}, []string{"either(int, text)"}, []string{"either(text, int)"})
}

// TestP12_1FitsNumbersOfArguments has constructors and tuples with too few arguments, and too many.
func TestP12_1FitsNumbersOfArguments(t *testing.T) {
	x := declaredTable(t)
	for n := range 17 {
		args := times(n, anything())
		for name, c := range map[string]struct {
			x string
			n int
		}{"nil": {"list(int)", 0}, "some": {"opt(int)", 1}, "pt": {"pt", 2}, "node": {"tree(int)", 3}} {
			if got := cover.Fits(x, mk(name, args...), of(c.x)); got != (n == c.n) {
				t.Errorf("%s of %d: %v", name, n, got)
			}
			if got := cover.Fits(x, tup(mk(name, args...), anything()), typ("tuple", of(c.x), typ("int"))); got != (n == c.n) {
				t.Errorf("%s of %d in a tuple: %v", name, n, got)
			}
		}
		for k := range 17 {
			if got := cover.Fits(x, tup(args...), typ("tuple", times(k, typ("int"))...)); got != (n == k && n != 1) {
				t.Errorf("a tuple of %d, %d Args: %v", n, k, got)
			}
		}
	}
}

// TestP12_1FitsOfWrongTypes has types that are not well-formed, or have parameters, and no table.
func TestP12_1FitsOfWrongTypes(t *testing.T) {
	x := declaredTable(t)
	var none *decl.Table
	empty := tableOf(t, api.Module{})
	for _, p := range []string{"_", "X", "1", "nil", "()", "(1, 2)", "some(1)"} {
		for _, name := range wrongTypes() {
			if cover.Fits(x, pat(p), of(name)) || cover.Fits(x, tup(pat(p), anything()), typ("tuple", of(name), typ("int"))) || cover.Fits(x, mk("some", pat(p)), typ("opt", of(name))) {
				t.Errorf("%s has the type %s", p, name)
			}
		}
		for _, name := range []string{"int", "bool", "tuple", "tuple(int, int)", "list(int)", "opt(int)", ""} {
			if cover.Fits(none, pat(p), of(name)) {
				t.Errorf("without a table %s has the type %s", p, name)
			}
			if got, want := cover.Fits(empty, pat(p), of(name)), !slices.Contains([]string{"list(int)", "opt(int)", ""}, name) && cover.Fits(x, pat(p), of(name)); got != want {
				t.Errorf("where nothing is declared %s: %s: %v", p, name, got)
			}
		}
	}
}

// wrongTypes are not well-formed, or have parameters.
func wrongTypes() []string {
	return []string{"", "nope", "'a", "'", "list", "list(int, int)", "color(int)", "int(int)", "bool(bool)", "tuple(int)", "list(nope)", "list(list)", "list('a)", "tuple(int, 'a)", "opt(tuple(int, list('a)))", "nil", "m.list(int)", "tuple(" + repeated(17, "int") + ")", strings.Repeat("list(", 64) + "int" + strings.Repeat(")", 64)}
}

// TestP12_1FitsOfInvalid has patterns that are not valid, and types that they would have.
func TestP12_1FitsOfInvalid(t *testing.T) {
	m := moduleOf(t, declared)
	for _, name := range []string{"", "X", "true", "int", "m.int", "a.b.c", strings.Repeat("a", 33), "m.c"} {
		m.Types = append(m.Types, typeDef("of "+name, api.ConsDef{Name: name}, api.ConsDef{Name: name + "_", Fields: []api.FieldDef{field(typ("int"))}}))
	}
	m.Types = append(m.Types, typeDef("wide", api.ConsDef{Name: "wide", Fields: times(9, field(typ("int")))}, api.ConsDef{Name: "narrow", Fields: times(8, field(typ("int")))}))
	x := tableOf(t, m)
	for _, name := range []string{"", "X", "true", "int", "m.int", "a.b.c", strings.Repeat("a", 33), "m.c"} {
		if cover.Fits(x, mk(name), typ("of "+name)) != (name == "m.c") {
			t.Errorf("%q", name)
		}
	}
	if cover.Fits(x, mk("wide", times(9, anything())...), typ("wide")) || !cover.Fits(x, mk("narrow", times(8, anything())...), typ("wide")) {
		t.Error("nine arguments")
	}
	for _, p := range invalidPatterns() {
		for _, name := range []string{"bool", "int", "big", "text", "tuple", "tuple(int, int)", "opt(int)", "list(int)", "color", "void"} {
			if cover.Fits(x, p, of(name)) || cover.Fits(x, tup(p, anything()), typ("tuple", of(name), typ("int"))) || cover.Fits(x, mk("some", p), typ("opt", of(name))) {
				t.Errorf("%+v has the type %s", p, name)
			}
		}
	}
}

// TestP12_1FitsDepths has patterns and types of as many levels as there may be, and of more.
func TestP12_1FitsDepths(t *testing.T) {
	x := declaredTable(t)
	for levels := 1; levels < 130; levels++ {
		p, boxes, a := anything(), anything(), typ("int")
		for range levels - 1 {
			p, boxes, a = mk("s", p), mk("box", boxes), typ("box", a)
		}
		if got := cover.Fits(x, p, typ("nat")); got != (levels <= 64) {
			t.Errorf("%d levels: %v", levels, got)
		}
		if got := cover.Fits(x, boxes, a); got != (levels <= 64) {
			t.Errorf("%d levels of boxes: %v", levels, got)
		}
		if levels > 1 && (cover.Fits(x, boxes, a.Args[0]) || cover.Fits(x, boxes, typ("box", typ("int"))) != (levels == 2)) {
			t.Errorf("%d levels of boxes have another type", levels)
		}
	}
	// What a parameter stands for may be deep, and what it is in, too: together they are deeper than a type may be.
	deep := typ("'a")
	for range 63 {
		deep = typ("tuple", typ("int"), deep)
	}
	m := api.Module{Types: []api.TypeDef{{Name: "t", Params: []string{"'a"}, Cons: []api.ConsDef{{Name: "c", Fields: []api.FieldDef{field(deep), field(typ("'a"))}}}}}}
	y := tableOf(t, m)
	a := typ("bool")
	for range 62 {
		a = typ("tuple", typ("int"), a)
	}
	p := anything()
	for range 62 {
		p = tup(lit(num(1)), p)
	}
	if !cover.Fits(y, mk("c", p, p), typ("t", a)) || cover.Fits(y, mk("c", p, tup(p.Args[1], p.Args[0])), typ("t", a)) || cover.Fits(y, mk("c", p, mk("c", p, p)), typ("t", a)) {
		t.Error("deep ones")
	}
}

// TestP12_1FitsParameters has parameters that stand for types in several ways.
func TestP12_1FitsParameters(t *testing.T) {
	fields := func(names ...string) []api.FieldDef {
		var l []api.FieldDef
		for _, name := range names {
			l = append(l, field(of(name)))
		}
		return l
	}
	x := tableOf(t, api.Module{Types: []api.TypeDef{
		{Name: "twice", Params: []string{"'b", "'a", "'a", "'b"}, Cons: []api.ConsDef{{Name: "twice", Fields: fields("'a", "'b")}}}, // the first one of a name counts
		{Name: "plain", Params: []string{"int", "other"}, Cons: []api.ConsDef{{Name: "plain", Fields: fields("int", "other")}}},     // without ' it is no parameter
		{Name: "other", Cons: []api.ConsDef{{Name: "other"}}},
		{Name: "mixed", Params: []string{"'a", "'b"}, Cons: []api.ConsDef{{Name: "mixed", Fields: fields("twice('b, 'a, text, bool)", "tuple('a, tuple('b, 'a))")}}},
	}})
	checkFits(t, x, []string{`twice("a", 1)`, `twice(_, 1)`, `twice("a", _)`}, []string{"twice(int, text, big, bool)"}, []string{"twice(text, int, big, bool)", "twice(big, bool, int, text)", "twice(bool, big, text, int)"})
	checkFits(t, x, []string{"plain(1, other)", "plain(1, _)"}, []string{"plain(text, text)", "plain(other, int)"}, []string{"plain"})
	checkFits(t, x, []string{`plain("a", other)`, "plain(1, 1)"}, nil, []string{"plain(text, text)", "plain(text, int)"})
	checkFits(t, x, []string{`mixed(twice(1, "a"), (1, ("a", 2)))`, "mixed(_, (1, (\"a\", 2)))", "mixed(twice(1, \"a\"), _)"}, []string{"mixed(int, text)"}, []string{"mixed(text, int)", "mixed(int, int)", "mixed(text, text)"})
}
