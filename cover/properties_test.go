package cover_test

import (
	"slices"
	"testing"

	"corollary/api"
	"corollary/cover"
	"corollary/tree"
)

// replaced is a pattern in which each variable is replaced by the value that is bound to it first, and any by what is in its place.
func replaced(t *testing.T, p api.Expr, v api.Value, l []cover.Bound) api.Value {
	t.Helper()
	switch p.Kind {
	case api.Any:
		return v
	case api.Lit:
		return p.Value
	case api.Var:
		i := slices.IndexFunc(l, func(b cover.Bound) bool { return b.Name == p.Name })
		if i < 0 {
			t.Fatalf("%s is not bound", p.Name)
		}
		return l[i].Value
	}
	result := api.Value{Kind: v.Kind, S: p.Name}
	for i, arg := range p.Args {
		result.L = append(result.L, replaced(t, arg, v.L[i], l))
	}
	return result
}

// TestP12_3Bindings matches again with what was bound, and puts the values in the places of the variables.
func TestP12_3Bindings(t *testing.T) {
	g := newGenerator(4)
	matches := 0
	for range 30000 {
		p, before := g.loose(3, g.named()), g.bounds()
		if g.chance(2) {
			before = nil
		}
		v := g.valueFor(p, map[string]api.Value{}, pick(g, 0, 0, 10))
		l, ok := cover.Match(p, v, before)
		if !ok {
			continue
		}
		matches++
		if again, ok := cover.Match(p, v, l); !ok || !same(again, l) {
			t.Fatalf("Match(%s, %+v) with %s: %s, %v", shownPattern(p), v, shownBounds(l), shownBounds(again), ok)
		}
		if got := replaced(t, p, v, l); !sameValue(got, v) {
			t.Fatalf("%s with %s is %+v, not %+v", shownPattern(p), shownBounds(l), got, v)
		}
		if !same(l[:len(before)], before) {
			t.Fatalf("%s, and then %s", shownBounds(before), shownBounds(l))
		}
		var names []string
		for _, b := range before {
			names = append(names, b.Name)
		}
		fresh := slices.DeleteFunc(tree.Vars(p), func(name string) bool { return slices.Contains(names, name) })
		if len(l) != len(before)+len(fresh) {
			t.Fatalf("%s: %s, and then %s", shownPattern(p), shownBounds(before), shownBounds(l))
		}
		for i, b := range l[len(before):] {
			if b.Name != fresh[i] {
				t.Fatalf("%s: %s", shownPattern(p), shownBounds(l))
			}
		}
	}
	if matches < 10000 {
		t.Errorf("%d matches", matches)
	}
}

// TestP12_3MatchesOfOneRow has the patterns of a row one after another, each with what was bound by those before it.
func TestP12_3MatchesOfOneRow(t *testing.T) {
	g := newGenerator(5)
	matches := 0
	for range 10000 {
		p, q := g.loose(3, g.named()), g.loose(3, g.named())
		values := map[string]api.Value{}
		v, w := g.valueFor(p, values, pick(g, 0, 0, 20)), g.valueFor(q, values, pick(g, 0, 0, 20))
		together, ok := cover.Match(tup(p, q), tuple(v, w), nil)
		l, first := cover.Match(p, v, nil)
		if first {
			l, first = cover.Match(q, w, l)
		}
		if ok != first || !same(together, l) {
			t.Fatalf("%s, %s: %s, %v, but %s, %v", shownPattern(p), shownPattern(q), shownBounds(together), ok, shownBounds(l), first)
		}
		if ok {
			matches++
		}
	}
	if matches < 3000 {
		t.Errorf("%d matches", matches)
	}
}

// TestP12_4WithoutTheRedundant takes the redundant rows away: all of them, and each alone.
func TestP12_4WithoutTheRedundant(t *testing.T) {
	g := newGenerator(6)
	taken := 0
	for range 6000 {
		m, x := g.module(t)
		xs := g.someTypes(m, 4)
		rows := g.rows(m, xs)
		all, e1 := cover.Covers(x, xs, rows)
		redundant, e2 := cover.Useless(x, xs, rows)
		if e1 != api.OK || e2 != api.OK || !slices.IsSorted(redundant) || len(slices.Compact(slices.Clone(redundant))) != len(redundant) {
			t.Fatalf("%v, %v, %v", e1, e2, redundant)
		}
		taken += len(redundant)
		rest := slices.Clone(rows)
		for _, i := range slices.Backward(redundant) {
			rest = without(rest, i)
			if got, e := cover.Covers(x, xs, without(rows, i)); got != all || e != api.OK {
				t.Fatalf("Covers(%s) of %s, without row %d: %v, %v", shown(xs...), shownRows(rows), i, got, e)
			}
		}
		checkRows(t, x, xs, rest, all)
	}
	if taken < 3000 {
		t.Errorf("%d rows were redundant", taken)
	}
}

// TestP12_5OneRowMore adds a row of Any, or of variables.
func TestP12_5OneRowMore(t *testing.T) {
	g := newGenerator(7)
	seen := map[bool]int{}
	for range 10000 {
		m, x := g.module(t)
		xs := g.someTypes(m, 4)
		rows := g.rows(m, xs)
		all, e := cover.Covers(x, xs, rows)
		if e != api.OK {
			t.Fatal(e)
		}
		seen[all]++
		redundant, _ := cover.Useless(x, xs, rows)
		if all {
			redundant = append(redundant, len(rows))
		}
		next := numbered()
		for _, more := range [][]api.Expr{times(len(xs), anything()), many(g, len(xs), len(xs), func() api.Expr { return variable(next()) })} {
			checkRows(t, x, xs, append(rows[:len(rows):len(rows)], more), true, redundant...)
		}
	}
	if seen[true] < 2000 || seen[false] < 2000 {
		t.Errorf("%v", seen)
	}
}

// TestP12_2OrderOfColumns changes the order of the columns, and that of the rows: whether they are exhaustive remains.
func TestP12_2OrderOfColumns(t *testing.T) {
	g := newGenerator(8)
	for range 3000 {
		m, x := g.module(t)
		xs := g.someTypes(m, 5)
		rows := g.rows(m, xs)
		all, _ := cover.Covers(x, xs, rows)
		redundant, _ := cover.Useless(x, xs, rows)
		order := g.Perm(len(xs))
		var ys []api.Type
		for _, i := range order {
			ys = append(ys, xs[i])
		}
		var exchanged [][]api.Expr
		for _, l := range rows {
			var other []api.Expr
			for _, i := range order {
				other = append(other, l[i])
			}
			exchanged = append(exchanged, other)
		}
		checkRows(t, x, ys, exchanged, all, redundant...)
		g.Shuffle(len(rows), func(i, k int) { rows[i], rows[k] = rows[k], rows[i] })
		if got, e := cover.Covers(x, xs, rows); got != all || e != api.OK {
			t.Errorf("Covers(%s) of %s: %v, %v", shown(xs...), shownRows(rows), got, e)
		}
	}
}
