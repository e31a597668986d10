package cover_test

import (
	"strconv"
	"strings"
	"testing"

	"corollary/api"
	"corollary/cover"
)

// TestExamplesOfTheChapter has those of the chapter.
func TestExamplesOfTheChapter(t *testing.T) {
	x := declaredTable(t)
	checkCovers(t, x, "list(int)", "nil; cons(_, _)")
	checkMisses(t, x, "list(int)", "nil; cons(1, _)")
	checkMisses(t, x, "list(int)", "nil; cons(_, nil); cons(1, nil)", 2)
	checkCovers(t, x, "bool", "true; false")
	checkMisses(t, x, "text", `"a"; "b"`)
	checkMatch(t, "(X, X)", "(1, 1)", "", "X = 1")
	checkNoMatch(t, "(X, X)", "", "(1, 2)")
	checkNoMatch(t, "X", "X = 2", "1", "3", `"2"`)
	checkMatch(t, "X", "2", "X = 2", "X = 2")
	checkRefused(t, "a variable twice", x, types("int, int"), rowsOf("X, X"), api.ErrMatch)
}

// TestP12_2NoRowsNoColumns has rows over no column, one and several, and no rows at all.
func TestP12_2NoRowsNoColumns(t *testing.T) {
	x := declaredTable(t)
	for n := range 5 {
		var redundant []int
		for i := 1; i < n; i++ {
			redundant = append(redundant, i)
		}
		checkRows(t, x, nil, make([][]api.Expr, n), n > 0, redundant...)
	}
	for _, xs := range []string{"int", "bool", "color", "tuple", "list(int)", "int, int", "bool, color, tuple", "dot", "dot, tuple, dot"} {
		checkMisses(t, x, xs, "")
	}
	for n := 1; n < 40; n++ {
		xs, anyRow := times(n, typ("color")), times(n, anything())
		checkRows(t, x, xs, [][]api.Expr{anyRow}, true)
		checkRows(t, x, xs, [][]api.Expr{anyRow, anyRow, anyRow}, true, 1, 2)
		for i := range n {
			checkRows(t, x, xs, [][]api.Expr{with(without(anyRow, i), i, mk("red")), anyRow, anyRow}, true, 2)
			checkRows(t, x, xs, [][]api.Expr{with(without(anyRow, i), i, mk("red")), with(without(anyRow, i), i, mk("blue"))}, false)
			checkRows(t, x, xs, [][]api.Expr{with(without(anyRow, i), i, mk("red")), with(without(anyRow, i), i, mk("blue")), with(without(anyRow, i), i, mk("green")), anyRow}, true, 3)
		}
	}
}

// TestP12_2AnyAndVariables are alike, in each column.
func TestP12_2AnyAndVariables(t *testing.T) {
	x := declaredTable(t)
	for _, xs := range []string{"int", "bool", "big", "text", "tuple", "tuple(int, bool)", "color", "list(int)", "dot", "pt", "nat"} {
		for _, rows := range []string{"_", "X", "_; X; _; Y", "X; _; X"} {
			n := strings.Count(rows, ";")
			checkRows(t, x, types(xs), rowsOf(rows), true, []int{1, 2, 3}[:n]...)
		}
	}
	checkCovers(t, x, "bool, int", "true, _; X, Y; _, _; false, 1", 2, 3)
	checkCovers(t, x, "bool, int", "true, X; X, 1; false, Y; _, 1", 3)
	checkMisses(t, x, "bool, int", "true, X; X, 1; Y, 2; false, 2; _, 1", 3, 4)
}

// TestP12_2Bools are exhaustive by two literals.
func TestP12_2Bools(t *testing.T) {
	x := declaredTable(t)
	checkMisses(t, x, "bool", "true")
	checkMisses(t, x, "bool", "false; false", 1)
	checkCovers(t, x, "bool", "false; true; false; _; X", 2, 3, 4)
	checkCovers(t, x, "bool, bool", "true, true; false, _; _, false")
	checkCovers(t, x, "bool, bool", "true, true; false, _; _, false; _, true", 3)
	checkCovers(t, x, "bool, bool", "true, true; true, false; false, true; false, false; true, _; _, true; _, _", 4, 5, 6)
	checkMisses(t, x, "bool, bool", "true, true; true, false; false, true; true, _; _, true", 3, 4)
	checkMisses(t, x, "bool, bool, bool", "true, _, _; _, true, _; _, _, true; true, true, true", 3)
	checkCovers(t, x, "bool, bool, bool", "true, _, _; _, true, _; _, _, true; false, false, false; _, false, false", 4)
}

// TestP12_2LiteralsWithoutEnd has types of which no finite list of literals is exhaustive.
func TestP12_2LiteralsWithoutEnd(t *testing.T) {
	x := declaredTable(t)
	literals := map[string]func(n int) string{
		"int": strconv.Itoa, "big": func(n int) string { return strconv.Itoa(n) + "b" }, "text": func(n int) string { return `"` + strings.Repeat("a", n) + `"` },
	}
	for xs, of := range literals {
		var rows []string
		for n := range 300 {
			rows = append(rows, of(n))
		}
		all := strings.Join(rows, "; ")
		checkMisses(t, x, xs, all)
		checkCovers(t, x, xs, all+"; _")
		checkCovers(t, x, xs, all+"; X; "+of(7)+"; _", 301, 302)
		checkMisses(t, x, xs, all+"; "+of(7)+"; "+of(300)+"; "+of(300), 300, 302)
		checkCovers(t, x, xs, of(1)+"; _; "+of(2), 2)
		checkCovers(t, x, "opt("+xs+")", "some("+of(1)+"); none; some(_); some("+of(2)+")", 3)
		checkMisses(t, x, "opt("+xs+")", "some("+of(1)+"); none; some("+of(2)+")")
		checkMisses(t, x, xs+", "+xs, of(1)+", _; _, "+of(1)+"; "+of(1)+", "+of(2)+"; "+of(2)+", "+of(1)+"; "+of(2)+", "+of(2), 2, 3)
	}
	checkMisses(t, x, "int", "-9223372036854775808; 9223372036854775807; 0; 9223372036854775807", 3)
	checkMisses(t, x, "text", `""; "\x00"; "\xff"; "true"; "1"; ""`, 5)
}

// TestP12_2Tuples have one form.
func TestP12_2Tuples(t *testing.T) {
	x := declaredTable(t)
	checkCovers(t, x, "tuple", "(); _; ()", 1, 2)
	checkCovers(t, x, "tuple(int, text)", "(_, _); (1, _); _; (X, Y)", 1, 2, 3)
	checkMisses(t, x, "tuple(int, text)", `(1, _); (_, "a"); (1, "a"); (2, "a")`, 2, 3)
	checkCovers(t, x, "tuple(bool, bool)", "(true, _); (_, false); (false, true)")
	checkCovers(t, x, "tuple(bool, tuple(bool, bool))", "(true, _); (_, (true, false)); (_, (_, true)); (false, (true, _)); (false, (false, false))", 3)
	checkMisses(t, x, "tuple(bool, tuple(bool, bool))", "(true, _); (_, (true, false)); (_, (_, true)); (false, (true, _))", 3)
	checkCovers(t, x, "tuple(tuple(tuple, dot), bool)", "(((), dot), true); (((), _), false); ((_, dot), _)", 2)
}

// TestP12_2OneConstructor has types with one constructor, and within them others.
func TestP12_2OneConstructor(t *testing.T) {
	x := declaredTable(t)
	checkCovers(t, x, "dot", "dot; _; dot", 1, 2)
	checkCovers(t, x, "pt", "pt(X, Y); _", 1)
	checkCovers(t, x, "pt", "_; pt(1, _)", 1)
	checkMisses(t, x, "pt", `pt(1, _); pt(_, "a"); pt(1, "a")`, 2)
	checkCovers(t, x, "flip", "flip(true, _); flip(_, true); flip(false, false); flip(false, _)", 3)
	checkMisses(t, x, "flip", "flip(true, _); flip(_, true); flip(true, true)", 2)
	checkCovers(t, x, "box(box(bool))", "box(box(true)); box(box(false)); box(_); _", 2, 3)
	checkCovers(t, x, "box(bool), box(dot)", "box(true), box(dot); _, _; box(false), _", 2)
	checkCovers(t, x, "same(bool)", "same((true, _)); same((_, true)); same((false, false)); same(_)", 3)
}

// TestP12_2ManyConstructors has types with many constructors.
func TestP12_2ManyConstructors(t *testing.T) {
	x := declaredTable(t)
	checkMisses(t, x, "color", "red; blue; red", 2)
	checkCovers(t, x, "color", "red; blue; green; _", 3)
	checkCovers(t, x, "color, switch", "red, on; blue, _; green, off; _, on; red, _; green, on", 5)
	checkMisses(t, x, "color, switch", "red, on; blue, _; green, off; _, on", []int{}...)
	var many api.TypeDef
	many.Name = "many"
	for n := range 300 {
		many.Cons = append(many.Cons, api.ConsDef{Name: "c" + strconv.Itoa(n), Fields: times(n%3, field(typ("many")))})
	}
	y := tableOf(t, api.Module{Types: []api.TypeDef{many}})
	var rows [][]api.Expr
	for _, c := range many.Cons {
		rows = append(rows, row(mk(c.Name, times(len(c.Fields), anything())...)))
	}
	checkRows(t, y, types("many"), rows, true)
	for _, i := range []int{0, 1, 2, 150, 299} {
		checkRows(t, y, types("many"), without(rows, i), false)
		checkRows(t, y, types("many"), append(without(rows, i), row(anything()), rows[i], rows[3]), true, 300, 301)
	}
	rows = with(rows, 1, row(mk("c1", mk("c1", anything()))), row(mk("c2", mk("c0"), mk("c0"))))
	checkRows(t, y, types("many"), rows, true)
}

// TestP12_2RecursiveTypes has values of any depth.
func TestP12_2RecursiveTypes(t *testing.T) {
	x := declaredTable(t)
	checkMisses(t, x, "nat", "z; s(z); s(s(z)); s(s(s(z)))")
	checkCovers(t, x, "nat", "z; s(z); s(s(z)); s(s(s(_))); s(_); _", 4, 5)
	checkCovers(t, x, "nat", "s(s(_)); z; s(z); s(s(z))", 3)
	checkMisses(t, x, "list(bool)", "nil; cons(true, _); cons(_, nil); cons(false, cons(true, _)); cons(true, nil)", 4)
	checkCovers(t, x, "list(bool)", "nil; cons(true, _); cons(_, nil); cons(false, cons(true, _)); cons(_, cons(false, _)); cons(false, cons(_, _))", 5)
	checkCovers(t, x, "tree(bool)", "leaf; node(leaf, _, leaf); node(node(_, _, _), true, _); node(_, false, node(_, _, _)); node(node(_, _, _), false, leaf); node(leaf, true, node(_, _, _))")
	checkMisses(t, x, "tree(bool)", "leaf; node(leaf, _, leaf); node(node(_, _, _), true, _); node(_, false, node(_, _, _)); node(node(_, _, _), false, leaf)")
	checkCovers(t, x, "alt(bool, color)", "done; step(red, done); step(_, step(true, _)); step(_, step(_, _)); step(blue, done); step(green, done); step(blue, _)", 6)
	checkMisses(t, x, "alt(bool, color)", "done; step(red, _); step(blue, _); step(green, done); step(green, step(true, _)); step(_, step(true, _))", 5)
	checkCovers(t, x, "ghost(int)", "ghost; spook(ghost); spook(spook(_)); _", 3)
	checkCovers(t, x, "list(int), list(int)", "nil, _; _, nil; cons(_, _), cons(_, _)")
	checkMisses(t, x, "list(int), list(int)", "nil, _; _, nil; cons(1, _), cons(_, _); cons(_, _), cons(1, _); nil, nil; cons(1, nil), nil", 4, 5)
}

// TestP12_2Depths has as many levels of patterns as there may be: of values there may be more here.
func TestP12_2Depths(t *testing.T) {
	x := declaredTable(t)
	var rows [][]api.Expr
	number := func(n int, p api.Expr) api.Expr {
		for range n {
			p = mk("s", p)
		}
		return p
	}
	for n := range 64 {
		rows = append(rows, row(number(n, mk("z"))))
	}
	checkRows(t, x, types("nat"), rows, false)
	checkRows(t, x, types("nat"), append(rows, row(number(63, anything()))), true)
	checkRows(t, x, types("nat"), append(rows[:63:63], row(number(63, anything())), rows[63], row(number(62, anything()))), true, 64, 65)
	checkRefused(t, "too deep", x, types("nat"), append(rows, row(number(64, anything()))), api.ErrType)
	checkRefused(t, "too deep", x, types("nat"), append(rows, row(number(64, mk("z")))), api.ErrType)
	boxes, a := anything(), typ("bool")
	truth := lit(boolean(1))
	for range 63 {
		boxes, a, truth = mk("box", boxes), typ("box", a), mk("box", truth)
	}
	checkRows(t, x, []api.Type{a}, [][]api.Expr{{truth}, {boxes}, {anything()}}, true, 2)
	checkRows(t, x, []api.Type{a}, [][]api.Expr{{truth}, {truth}}, false, 1)
	checkRefused(t, "a type too deep", x, []api.Type{typ("box", a)}, nil, api.ErrType)
}

// TestP12_2LiteralsBesideConstructors has literals and constructors in columns of the same rows.
func TestP12_2LiteralsBesideConstructors(t *testing.T) {
	x := declaredTable(t)
	checkCovers(t, x, "int, opt(bool), color", "1, none, _; _, some(true), red; X, none, Y; _, some(_), _; 1, none, red; 2, some(true), red", 4, 5)
	checkMisses(t, x, "int, opt(bool), color", "1, _, _; _, none, _; 2, some(true), _; 3, some(_), red; _, some(false), X", []int{}...)
	checkCovers(t, x, "opt(int), opt(text)", `none, none; some(1), _; _, some("a"); some(X), none; _, some(_)`)
	checkMisses(t, x, "opt(int), opt(text)", `none, none; some(1), _; _, some("a"); some(X), none; some(1), some("a"); none, some("a")`, 4, 5)
	checkCovers(t, x, "either(bool, color), bool", "left(true), _; right(red), true; left(_), false; neither, _; right(X), Y; left(_), true; left(false), _", 6)
}

// TestP12_2Redundant has rows that are redundant by one earlier row, and by several together, but not by later ones.
func TestP12_2Redundant(t *testing.T) {
	x := declaredTable(t)
	checkMisses(t, x, "int", "1; 1; 2; 1; 2", 1, 3, 4)
	checkCovers(t, x, "bool", "true; _; false; true", 2, 3)
	checkCovers(t, x, "bool", "true; _; _", 2)
	checkCovers(t, x, "opt(color)", "some(red); none; some(blue); some(green); some(_)", 4)
	checkMisses(t, x, "opt(color)", "some(red); some(blue); some(green); some(_); some(red)", 3, 4)
	checkMisses(t, x, "bool, bool", "true, _; _, true; true, true; false, true", 2, 3)
	checkMisses(t, x, "bool, bool", "true, true; true, _; true, false", 2)
	checkMisses(t, x, "bool, color", "true, red; false, red; _, red; true, blue; _, blue; false, blue", 2, 5)
	checkMisses(t, x, "flip, flip", "flip(true, _), flip(_, true); flip(_, true), flip(true, _); flip(true, true), flip(true, true); flip(true, true), flip(_, _); flip(true, true), flip(false, true); flip(true, true), flip(true, false)", 2, 4, 5)
	// What is redundant takes nothing away from what comes behind it, and adds nothing.
	checkCovers(t, x, "color", "red; red; green; red; blue; green; _", 1, 3, 5, 6)
	checkCovers(t, x, "list(color)", "cons(red, nil); cons(_, nil); cons(blue, nil); nil; cons(red, _); cons(_, cons(_, _)); cons(_, _); nil", 2, 6, 7)
}

// TestP12_2ManyColumns has rows of which each covers what others leave.
func TestP12_2ManyColumns(t *testing.T) {
	x := declaredTable(t)
	for _, n := range []int{1, 2, 3, 4, 5, 8, 15, 40} {
		xs, anyRow := times(n, typ("bool")), times(n, anything())
		var rows [][]api.Expr
		for i := range n {
			rows = append(rows, with(without(anyRow, i), i, lit(boolean(1))))
		}
		allFalse := times(n, lit(boolean(0)))
		checkRows(t, x, xs, rows, false)
		checkRows(t, x, xs, append(rows, allFalse, anyRow), true, n+1)
		checkRows(t, x, xs, append(with(rows, 0, allFalse), allFalse, times(n, lit(boolean(1)))), true, n+1, n+2)
		for i := range n {
			missing := append(without(rows, i), allFalse)
			checkRows(t, x, xs, missing, false)
		}
	}
}

// TestP12_2WideRows has many rows, each of which has another literal, or the same one, in one of several columns.
func TestP12_2WideRows(t *testing.T) {
	x := declaredTable(t)
	var rows [][]api.Expr
	var redundant []int
	for n := range 1200 {
		if n%3 == 2 {
			redundant = append(redundant, n)
		}
		rows = append(rows, row(anything(), lit(num(int64(n-n%3/2))), anything()))
	}
	checkRows(t, x, types("color, int, text"), rows, false, redundant...)
	checkRows(t, x, types("color, int, text"), append(rows, row(mk("red"), anything(), anything()), row(mk("red"), lit(num(5000)), anything()), times(3, anything())), true, append(redundant, 1201)...)
}

// TestP12_2Positions are not looked at.
func TestP12_2Positions(t *testing.T) {
	x := declaredTable(t)
	p, q := pat("cons(1, _)"), pat("cons(1, _)")
	q.Pos, q.Args[0].Pos, q.Args[1].Pos = api.Pos{Line: 7, Col: -1}, api.Pos{}, api.Pos{Line: 3}
	checkRows(t, x, types("list(int)"), [][]api.Expr{{p}, {q}}, false, 1)
	if l, ok := cover.Match(q, val("cons(1, nil)"), nil); !ok || len(l) != 0 || !cover.Fits(x, q, of("list(int)")) {
		t.Errorf("%v, %v", l, ok)
	}
}

// TestP12_2NamesOfConstructors has constructors that no pattern may name: there are values of them here.
func TestP12_2NamesOfConstructors(t *testing.T) {
	for _, name := range []string{"", "C", "true", "int", "a.b.c", strings.Repeat("c", 33), "m.not"} {
		alone := typeDef("alone", api.ConsDef{Name: name})
		beside := typeDef("beside", api.ConsDef{Name: "c"}, api.ConsDef{Name: name + "_"}, api.ConsDef{Name: name + "?", Fields: []api.FieldDef{field(typ("int"))}})
		if name == "" {
			beside.Cons[1].Name = "_"
		}
		x := tableOf(t, api.Module{Types: []api.TypeDef{alone, beside}})
		checkMisses(t, x, "alone", "")
		checkCovers(t, x, "alone", "_; X", 1)
		checkMisses(t, x, "beside", "c")
		checkCovers(t, x, "beside", "c; _; _", 2)
		checkMisses(t, x, "tuple(alone, bool)", "(_, true); (_, true)", 1)
		checkCovers(t, x, "tuple(alone, bool)", "(_, true); (_, false); (_, true)", 2)
	}
	wide := typeDef("wide", api.ConsDef{Name: "wide", Fields: times(9, field(typ("int")))}, api.ConsDef{Name: "narrow"})
	x := tableOf(t, api.Module{Types: []api.TypeDef{wide}})
	checkMisses(t, x, "wide", "narrow")
	checkCovers(t, x, "wide", "narrow; _")
}
