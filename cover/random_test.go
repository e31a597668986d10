package cover_test

import (
	"testing"

	"corollary/api"
	"corollary/cover"
)

// someTypes are types for a few columns.
func (g *generator) someTypes(m api.Module, most int) []api.Type {
	return many(g, 0, most, func() api.Type { return g.typed(m, nil, 3) })
}

// TestP12_2RandomRows holds both calls against an enumeration of all values that differ in what the patterns look at.
func TestP12_2RandomRows(t *testing.T) {
	g := newGenerator(1)
	exhaustive, without, redundant := map[bool]int{}, 0, 0
	for range 3000 {
		m, x := g.module(t)
		for range 4 {
			w, xs := newWorld(m), g.someTypes(m, 3)
			rows := g.rows(m, xs)
			values := w.cases(xs, rows)
			if w.isCut {
				continue
			}
			for i, l := range values {
				for k, v := range l {
					if i%17 == 0 && !x.Is(v, xs[k]) {
						t.Fatalf("the value %+v has not the type %s", v, shown(xs[k]))
					}
				}
			}
			all, l := judged(values, rows)
			checkRows(t, x, xs, rows, all, l...)
			if t.Failed() {
				t.Fatalf("%+v", m.Types)
			}
			exhaustive[all]++
			redundant += len(l)
			if len(values) == 0 {
				without++
			}
		}
	}
	if exhaustive[true] < 2000 || exhaustive[false] < 2000 || redundant < 5000 || without < 200 {
		t.Errorf("%v, %d without values, %d redundant", exhaustive, without, redundant)
	}
}

// TestP12_2SmallTypes has each list of a few patterns of small types against all values up to a depth that no pattern reaches.
func TestP12_2SmallTypes(t *testing.T) {
	m := moduleOf(t, declared)
	x := tableOf(t, m)
	for _, c := range []struct {
		xs, patterns string
		levels       int
	}{
		{"bool", "_; true; false", 1},
		{"int", "_; 0; 1", 1},
		{"color", "_; red; green; blue", 1},
		{"bool, bool", "_, _; true, _; false, _; _, true; _, false; true, true; true, false; false, true; false, false", 1},
		{"bool, int", "_, _; true, _; false, _; _, 0; true, 1; false, 1", 1},
		{"opt(bool)", "_; none; some(_); some(true); some(false)", 2},
		{"opt(opt(bool))", "_; none; some(_); some(none); some(some(_)); some(some(true)); some(some(false))", 3},
		{"nat", "_; z; s(_); s(z); s(s(_)); s(s(z))", 5},
		{"list(bool)", "_; nil; cons(_, _); cons(true, _); cons(false, _); cons(_, nil); cons(_, cons(_, _)); cons(true, nil); cons(false, cons(_, nil))", 5},
		{"tree(dot)", "_; leaf; node(_, _, _); node(leaf, _, _); node(_, dot, leaf); node(node(_, _, _), _, _); node(_, _, node(leaf, _, leaf))", 5},
		{"flip", "_; flip(_, _); flip(true, _); flip(_, false); flip(false, true); flip(true, true)", 2},
		{"either(bool, void)", "_; left(_); left(true); left(false); right(_); neither", 3},
		{"list(void), switch", "_, _; nil, _; _, on; cons(_, _), off; nil, off; _, off", 3},
		{"alt(bool, dot)", "_; done; step(_, _); step(_, done); step(dot, step(true, _)); step(_, step(false, done)); step(_, step(_, step(_, _)))", 6},
	} {
		xs, patterns := types(c.xs), rowsOf(c.patterns)
		values := newWorld(m).rowsOfValues(xs, c.levels)
		var visit func(rows [][]api.Expr, more int)
		visit = func(rows [][]api.Expr, more int) {
			all, l := judged(values, rows)
			checkRows(t, x, xs, rows, all, l...)
			if more == 0 || t.Failed() {
				return
			}
			for _, p := range patterns {
				visit(append(rows[:len(rows):len(rows)], p), more-1)
			}
		}
		visit(nil, 4)
	}
}

// TestP12_1RandomMatches holds Match against an independent reading of the chapter.
func TestP12_1RandomMatches(t *testing.T) {
	g := newGenerator(2)
	seen := map[bool]int{}
	for range 60000 {
		p, before := g.loose(3, g.named()), g.bounds()
		values := map[string]api.Value{}
		for i := len(before) - 1; i >= 0 && !g.chance(4); i-- {
			values[before[i].Name] = before[i].Value
		}
		v := g.valueFor(p, values, pick(g, 0, 0, 20, 5))
		want, is := matched(p, v, before)
		seen[is]++
		if l, ok := cover.Match(p, v, before); ok != is || !same(l, want) {
			t.Fatalf("Match(%s, %+v, %s): %s, %v, not %s, %v", shownPattern(p), v, shownBounds(before), shownBounds(l), ok, shownBounds(want), is)
		}
	}
	if seen[true] < 5000 || seen[false] < 5000 {
		t.Errorf("%v", seen)
	}
}

// TestP12_1RandomFits holds Fits against an independent reading of the chapter.
func TestP12_1RandomFits(t *testing.T) {
	g := newGenerator(3)
	seen := map[bool]int{}
	for range 4000 {
		m, x := g.module(t)
		xs := many(g, 4, 4, func() api.Type { return g.typed(m, nil, 3) })
		for _, a := range xs {
			p := g.pattern(m, a, 3, g.named())
			if !cover.Fits(x, p, a) {
				t.Errorf("%s has not the type %s", shownPattern(p), shown(a))
			}
			for _, b := range xs {
				want := fitting(m, p, b)
				seen[want]++
				if cover.Fits(x, p, b) != want {
					t.Errorf("%s, %s: %v: %+v", shownPattern(p), shown(b), !want, m.Types)
				}
			}
		}
	}
	if seen[true] < 10000 || seen[false] < 10000 {
		t.Errorf("%v", seen)
	}
}
