package cover_test

import (
	"slices"
	"strings"
	"testing"

	"corollary/api"
	"corollary/cover"
	"corollary/decl"
	"corollary/tree"
)

// TestErrorsNoTable comes before all others.
func TestErrorsNoTable(t *testing.T) {
	var none *decl.Table
	for _, xs := range [][]api.Type{nil, types("int"), types("int, nope"), {typ("list", typ("'a"))}} {
		for _, rows := range [][][]api.Expr{nil, {nil}, rowsOf("1"), rowsOf("1, nope; X, X"), {{{}}}} {
			checkRefused(t, "no table", none, xs, rows, api.ErrNil)
		}
	}
}

// TestErrorsOfTypes have types that are not well-formed, or have parameters, before any errors in rows; also where there are no rows.
func TestErrorsOfTypes(t *testing.T) {
	x := declaredTable(t)
	for _, name := range wrongTypes() {
		for _, xs := range [][]api.Type{{of(name)}, {typ("int"), of(name)}, {of(name), typ("int")}, {typ("int"), of(name), of(name)}, {typ("int"), typ("tuple", typ("int"), of(name))}} {
			for _, rows := range [][][]api.Expr{nil, {nil}, {times(len(xs), anything())}, rowsOf("X, X"), rowsOf("X, X, Y")} {
				checkRefused(t, name, x, xs, rows, api.ErrType)
			}
		}
	}
	checkRefused(t, "nothing is declared", tableOf(t, api.Module{}), types("list(int)"), nil, api.ErrType)
	checkRefused(t, "no type of New", &decl.Table{}, types("int, list(int)"), nil, api.ErrType)
	checkRows(t, &decl.Table{}, types("bool, tuple(int, bool)"), rowsOf("true, _; false, (1, _); false, _; true, (1, true)"), true, 3)
}

// TestErrorsOfPatterns has rows with too few patterns, and too many, and patterns that are invalid or of other types, in each column.
func TestErrorsOfPatterns(t *testing.T) {
	x := declaredTable(t)
	for n := range 5 {
		for k := range 5 {
			xs, l := times(k, typ("int")), times(n, anything())
			want := api.OK
			if n != k {
				want = api.ErrType
			}
			for _, rows := range [][][]api.Expr{{l}, {times(k, anything()), l}, {l, times(k, anything())}} {
				if _, e := cover.Covers(x, xs, rows); e != want {
					t.Errorf("%d patterns, %d types: %v", n, k, e)
				}
				if _, e := cover.Useless(x, xs, rows); e != want {
					t.Errorf("%d patterns, %d types: %v", n, k, e)
				}
			}
		}
	}
	wrong := invalidPatterns()
	for _, s := range []string{`"a"`, "true", "1b", "()", "(1, 2)", "nil", "nope", "nope(1)", "some(1)"} {
		wrong = append(wrong, pat(s))
	}
	for _, p := range wrong {
		checkRefused(t, "alone", x, types("int"), [][]api.Expr{{p}}, api.ErrType)
		for i := range 3 {
			l := with(row(anything(), anything()), i, p)
			checkRefused(t, "in a column", x, types("int, int, int"), [][]api.Expr{l}, api.ErrType)
			checkRefused(t, "behind other rows", x, types("int, int, int"), [][]api.Expr{times(3, anything()), times(3, anything()), l}, api.ErrType)
		}
		checkRefused(t, "in others", x, types("list(opt(int))"), [][]api.Expr{{mk("cons", anything(), mk("cons", mk("some", p), anything()))}}, api.ErrType)
		checkRefused(t, "of a type without values", x, types("tuple(int, void)"), [][]api.Expr{{tup(p, anything())}}, api.ErrType)
	}
	for _, s := range []string{"list(int): some(1)", "list(int): cons(_)", "list(int): cons(_, _, _)", "list(int): cons(true, _)", "list(int): cons(_, cons(true, _))", "opt(list(int)): some(cons(_, some(_)))", "tuple(int, bool): (true, 1)", "tuple(int, bool): (_, _, _)", "tuple(int, bool): ()", "tuple: (_, _)", "alt(int, bool): step(1, _)", "alt(int, bool): step(true, step(true, _))", "color: on", "void: box(_)", "same(int): same((_, true))"} {
		xs, rows, _ := strings.Cut(s, ":")
		checkRefused(t, s, x, types(xs), rowsOf(rows), api.ErrType)
	}
}

// TestErrorsVariablesTwice have a variable twice, within a pattern and among patterns of a row; in several rows it may occur.
func TestErrorsVariablesTwice(t *testing.T) {
	x := declaredTable(t)
	for _, s := range []string{"int, int: X, X", "int, int, int: X, _, X", "tuple(int, int): (X, X)", "tuple(int, tuple(int, int)): (X, (Y, X))", "list(int), int: cons(_, cons(X, _)), X", "int, list(int): X, cons(Y, cons(X, Z))", "list(int): cons(X, cons(Y, cons(X, _)))", "int, bool: X, X", "pt: pt(X, X)", "int, color, tuple(int, int): A, red, (B, A)", "void, int: X, X"} {
		xs, rows, _ := strings.Cut(s, ":")
		checkRefused(t, s, x, types(xs), rowsOf(rows), api.ErrMatch)
		anyRow := times(len(types(xs)), anything())
		checkRefused(t, s, x, types(xs), append([][]api.Expr{anyRow}, rowsOf(rows)...), api.ErrMatch)
		checkRefused(t, s, x, types(xs), append(rowsOf(rows), anyRow), api.ErrMatch)
	}
	checkCovers(t, x, "int, tuple(int, int)", "X, (Y, Z); Y, (X, 1); Z, _; X, (Y, Z)", 1, 2, 3)
	checkCovers(t, x, "int, int", "X, Xx; Xx, X", 1)
}

// TestErrorsInOrder has several errors: the first row that has one counts, and in a row the types come first.
func TestErrorsInOrder(t *testing.T) {
	x := declaredTable(t)
	for s, want := range map[string]api.Errno{
		"X, X; 1, true": api.ErrMatch, "1, true; X, X": api.ErrType, "X, (X, true)": api.ErrType, "X, X; X": api.ErrMatch, "X; X, X": api.ErrType, "X, X, X": api.ErrType, "X, X; nope, 1": api.ErrMatch, "nope, 1; X, X": api.ErrType,
		"1, 2; X, X; true, 1": api.ErrMatch, "1, 2; true, 1; X, X": api.ErrType, "_, _; _, _; X, X": api.ErrMatch, "_, _; _, _; X, X; Y, nil": api.ErrMatch, "_, _; Y, nil; X, X": api.ErrType, "X, Y; Y, X; Y, Y": api.ErrMatch,
	} {
		checkRefused(t, s, x, types("int, int"), rowsOf(s), want)
		checkRefused(t, s, x, types("int, nope"), rowsOf(s), api.ErrType)
		checkRefused(t, s, nil, types("int, nope"), rowsOf(s), api.ErrNil)
	}
	twiceAndInvalid := row(variable("X"), variable("X"), variable("x"))
	checkRefused(t, "invalid", x, types("int, int, int"), [][]api.Expr{twiceAndInvalid}, api.ErrType)
	checkRefused(t, "invalid", x, types("int, int, int"), [][]api.Expr{twiceAndInvalid[:2]}, api.ErrType)
	checkRefused(t, "twice", x, types("int, int, int"), [][]api.Expr{row(variable("X"), variable("X"), variable("Y")), twiceAndInvalid}, api.ErrMatch)
}

// firstError is an independent reading of the errors in rows.
func firstError(m api.Module, xs []api.Type, rows [][]api.Expr) api.Errno {
	for _, l := range rows {
		if len(l) != len(xs) {
			return api.ErrType
		}
		var names []string
		for i, p := range l {
			if !tree.Pattern(p) || !fitting(m, p, xs[i]) {
				return api.ErrType
			}
			names = append(names, namesIn(p)...)
		}
		slices.Sort(names)
		if len(slices.Compact(slices.Clone(names))) != len(names) {
			return api.ErrMatch
		}
	}
	return api.OK
}

// namesIn are the variables in a pattern, each as often as it occurs.
func namesIn(p api.Expr) []string {
	var names []string
	if p.Kind == api.Var {
		names = append(names, p.Name)
	}
	for _, arg := range p.Args {
		names = append(names, namesIn(arg)...)
	}
	return names
}

// TestErrorsOfRandomRows holds the errors of both calls against an independent reading of the chapter.
func TestErrorsOfRandomRows(t *testing.T) {
	g := newGenerator(9)
	seen := map[api.Errno]int{}
	for range 20000 {
		m, x := g.module(t)
		xs := g.someTypes(m, 3)
		rows := many(g, 0, 4, func() []api.Expr { return g.doubtfulRow(m, xs) })
		want := firstError(m, xs, rows)
		seen[want]++
		all, e := cover.Covers(x, xs, rows)
		l, e2 := cover.Useless(x, xs, rows)
		if e != want || e2 != want || e != api.OK && (all || len(l) > 0) {
			t.Fatalf("%v, %v, not %v: %s of %s", e, e2, want, shown(xs...), shownRows(rows))
		}
	}
	for _, e := range []api.Errno{api.OK, api.ErrType, api.ErrMatch} {
		if seen[e] < 300 {
			t.Errorf("%v came %d times", e, seen[e])
		}
	}
}

// doubtfulRow is one for types, in which variables may occur twice; sometimes for other types, and of another length.
func (g *generator) doubtfulRow(m api.Module, xs []api.Type) []api.Expr {
	next := numbered()
	if g.chance(2) {
		next = g.named()
	}
	var l []api.Expr
	for _, x := range xs {
		if g.chance(25) {
			x = g.typed(m, nil, 3)
		}
		l = append(l, g.pattern(m, x, 3, next))
	}
	switch {
	case g.chance(30):
		return append(l, anything())
	case g.chance(30) && len(l) > 0:
		return l[1:]
	case g.chance(30) && len(l) > 0:
		return with(l[1:], 0, pick(g, invalidPatterns()...))
	}
	return l
}
