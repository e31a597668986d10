package cover_test

import (
	"cmp"
	"reflect"
	"slices"
	"sync"
	"testing"

	"corollary/api"
	"corollary/cover"
	"corollary/decl"
)

// endlessType contains itself, twice.
func endlessType(name string) api.Type {
	l := make([]api.Type, 2)
	l[0] = typ(name, l...)
	l[1] = l[0]
	return l[0]
}

func endlessValue(kind uint8, name string) api.Value {
	l := make([]api.Value, 2)
	l[0] = api.Value{Kind: kind, S: name, L: l}
	l[1] = l[0]
	return l[0]
}

func endlessPattern(kind uint8, name string) api.Expr {
	l := make([]api.Expr, 2)
	l[0] = api.Expr{Kind: kind, Name: name, Args: l}
	l[1] = l[0]
	return l[0]
}

// doubled has so many levels, each of which has the next one twice, in the same memory.
func doubled[T any](levels int, last T, twice func(T) T) T {
	for range levels - 1 {
		last = twice(last)
	}
	return last
}

func twiceType(x api.Type) api.Type        { return typ("tuple", x, x) }
func twiceValue(v api.Value) api.Value     { return tuple(v, v) }
func twicePattern(p api.Expr) api.Expr     { return tup(p, p) }
func twiceFork(p api.Expr) api.Expr        { return mk("fork", p, p) }
func twiceForkValue(v api.Value) api.Value { return cons("fork", v, v) }

const forks = "module m type t = leaf | fork(t, t) type list('a) = nil | cons('a, list('a))"

// checkNoPattern requires that each call refuses a pattern.
func checkNoPattern(t *testing.T, p api.Expr) {
	t.Helper()
	x := tableOf(t, moduleOf(t, forks))
	if cover.Fits(x, p, typ("t")) || cover.Fits(x, tup(anything(), p), of("tuple(int, t)")) {
		t.Error("a pattern without an end has a type")
	}
	checkRefused(t, "a pattern without an end", x, types("int, t"), [][]api.Expr{{anything(), mk("fork", anything(), p)}}, api.ErrType)
	for _, v := range []api.Value{num(1), cons("fork", cons("leaf"), cons("leaf"))} {
		if l, ok := cover.Match(p, v, nil); ok || len(l) > 0 {
			t.Error("a pattern without an end matches")
		}
	}
}

// TestR1PatternsWithoutEnd has patterns that contain themselves, or values that do, and such of which there is too much.
func TestR1PatternsWithoutEnd(t *testing.T) {
	for kind := range 10 {
		for _, name := range []string{"", "X", "fork"} {
			checkNoPattern(t, endlessPattern(uint8(kind), name))
			checkNoPattern(t, lit(endlessValue(uint8(kind), name)))
		}
		for _, v := range []api.Value{endlessValue(uint8(kind), ""), doubled(64, num(1), twiceValue)} {
			checkNoPattern(t, api.Expr{Kind: uint8(kind), Value: v})
			v.Kind = uint8(kind)
			checkNoPattern(t, lit(v))
		}
	}
	checkNoPattern(t, doubled(64, anything(), twicePattern))
	checkNoPattern(t, doubled(64, variable("X"), twiceFork))
}

// TestR1ManyPatternsWithoutEnd has many patterns of each of which there is nearly too much: all take the same memory.
func TestR1ManyPatternsWithoutEnd(t *testing.T) {
	rows := times(1<<20, row(doubled(20, anything(), twicePattern)))
	checkRefused(t, "too much", declaredTable(t), []api.Type{doubled(20, typ("int"), twiceType)}, rows, api.ErrType)
}

// TestR1ValuesWithoutEnd has values that contain themselves, and such of which there is too much.
func TestR1ValuesWithoutEnd(t *testing.T) {
	for _, v := range []api.Value{endlessValue(api.Tuple, ""), endlessValue(api.Cons, "fork"), endlessValue(0, ""), doubled(64, cons("leaf"), twiceForkValue)} {
		for _, p := range []api.Expr{anything(), variable("X"), tup(anything(), anything()), mk("fork", anything(), variable("X"))} {
			if l, ok := cover.Match(p, v, nil); ok || len(l) > 0 {
				t.Error("a value without an end is matched")
			}
		}
	}
}

// TestR1TypesWithoutEnd has types that contain themselves, and such of which there is too much.
func TestR1TypesWithoutEnd(t *testing.T) {
	x := tableOf(t, moduleOf(t, forks))
	for _, a := range []api.Type{endlessType("tuple"), endlessType("list"), endlessType("'a"), endlessType(""), doubled(64, typ("int"), twiceType)} {
		if cover.Fits(x, anything(), a) || cover.Fits(x, endlessPattern(api.Tup, ""), a) || cover.Fits(x, anything(), typ("list", a)) {
			t.Error("a type without an end")
		}
		checkRefused(t, "a type without an end", x, []api.Type{typ("int"), a}, rowsOf("_, _"), api.ErrType)
	}
}

// TestR1BoundWithoutEnd has variables bound ahead to values that contain themselves, that are deep, and of which there is too much.
func TestR1BoundWithoutEnd(t *testing.T) {
	deep := num(1)
	for range 1 << 15 {
		deep = tuple(num(1), deep)
	}
	for _, v := range []api.Value{endlessValue(api.Tuple, ""), endlessValue(api.Cons, "c"), endlessValue(0, ""), doubled(64, num(1), twiceValue), deep} {
		before := []cover.Bound{bound("X", v), bound("Y", num(1))}
		for _, w := range []api.Value{num(1), tuple(), tuple(num(1), num(1)), doubled(10, num(1), twiceValue), tuple(num(1), tuple(num(1), num(1)))} {
			if l, ok := cover.Match(variable("X"), w, before); ok || len(l) > 0 {
				t.Error("a value without an end is like another one")
			}
			l, ok := cover.Match(tup(variable("Y"), variable("Z")), tuple(num(1), w), before)
			if !ok || len(l) != 3 || l[0].Name != "X" || !same(l[1:], []cover.Bound{bound("Y", num(1)), bound("Z", w)}) {
				t.Errorf("%d, %v", len(l), ok)
			}
		}
	}
	if l, ok := cover.Match(anything(), num(1), []cover.Bound{bound("X", deep)}); !ok || !same(l, []cover.Bound{bound("X", deep)}) {
		t.Error("a value that is deep, but has an end, is another one")
	}
}

// TestR1TooManyForms has rows that would take very long if all combinations of the forms in their columns were looked at.
func TestR1TooManyForms(t *testing.T) {
	x := declaredTable(t)
	const n = 200
	xs, anyRow := times(n, typ("color")), times(n, anything())
	colors := []string{"red", "green", "blue"}
	var rows [][]api.Expr
	for i := range n - 1 {
		for _, name := range colors {
			l := slices.Clone(anyRow)
			l[i], l[i+1] = mk(name), mk("red")
			rows = append(rows, l)
		}
	}
	slices.Reverse(rows)
	checkRows(t, x, xs, rows, false)
	// What decides is in the last column, or in one of the others, behind many rows that look at several columns.
	g := newGenerator(16)
	var long [][]api.Expr
	for range 150 {
		l := slices.Clone(anyRow)
		for _, i := range g.Perm(n - 1)[:12] {
			l[i] = mk(pick(g, colors...))
		}
		long = append(long, l)
	}
	checkRows(t, x, xs, long, false)
	for _, i := range []int{n - 1, n / 2, 0} {
		var short [][]api.Expr
		for _, name := range colors {
			short = append(short, with(without(anyRow, i), i, mk(name)))
		}
		checkRows(t, x, xs, append(long[:len(long):len(long)], append(short, long[7], anyRow)...), true, 153, 154)
		checkRows(t, x, times(n, of("tuple(color, color)")), append(paired(long, false), append(paired(short, true), paired([][]api.Expr{long[7], anyRow}, true)...)...), true, 153, 154)
	}
}

// paired are rows with a tuple in the place of each pattern: of that, and of Any. Any remains as it is, or has one, too.
func paired(rows [][]api.Expr, isAll bool) [][]api.Expr {
	var result [][]api.Expr
	for _, l := range rows {
		l = slices.Clone(l)
		for i, p := range l {
			if isAll || p.Kind != api.Any {
				l[i] = tup(p, anything())
			}
		}
		result = append(result, l)
	}
	return result
}

// call is what one call is given.
type call struct {
	Xs     []api.Type
	Rows   [][]api.Expr
	P      api.Expr
	V      api.Value
	Before []cover.Bound
}

// answer is all that the four calls return.
type answer struct {
	Covers, Matches bool
	Useless         []int
	E1, E2          api.Errno
	Bound           []cover.Bound
	Fits            []bool
}

func (c call) answer(x *decl.Table) answer {
	var a answer
	a.Covers, a.E1 = cover.Covers(x, c.Xs, c.Rows)
	a.Useless, a.E2 = cover.Useless(x, c.Xs, c.Rows)
	a.Bound, a.Matches = cover.Match(c.P, c.V, c.Before)
	for _, y := range c.Xs {
		for _, l := range c.Rows {
			for _, p := range l {
				a.Fits = append(a.Fits, cover.Fits(x, p, y))
			}
		}
	}
	return a
}

// calls are some, with the modules whose tables they take.
func (g *generator) calls(t *testing.T, n int) ([]call, []api.Module) {
	var l []call
	var modules []api.Module
	for range n {
		m, _ := g.module(t)
		xs := g.someTypes(m, 3)
		rows := g.rows(m, xs)
		if g.chance(3) {
			rows = many(g, 0, 3, func() []api.Expr { return g.doubtfulRow(m, xs) })
		}
		p := g.loose(3, g.named())
		v := g.valueFor(p, map[string]api.Value{}, pick(g, 0, 0, 10))
		before := []cover.Bound{bound("W", g.value(2)), bound("V", g.value(3)), bound("W", g.value(2))}
		l = append(l, copied(call{xs, rows, p, v, before}))
		modules = append(modules, m)
	}
	return l, modules
}

// listsIn are all lists in something, each with what is behind its end.
func listsIn(x reflect.Value) []reflect.Value {
	var l []reflect.Value
	switch x.Kind() {
	case reflect.Struct:
		for i := range x.NumField() {
			l = append(l, listsIn(x.Field(i))...)
		}
	case reflect.Slice:
		whole := x.Slice(0, x.Cap())
		if x.Cap() > 0 {
			l = append(l, whole)
		}
		for i := range whole.Len() {
			l = append(l, listsIn(whole.Index(i))...)
		}
	}
	return l
}

// checkApart requires that no two lists in some things share memory.
func checkApart(t *testing.T, all ...any) {
	t.Helper()
	type part struct{ begin, end uintptr }
	var parts []part
	for _, x := range all {
		for _, l := range listsIn(reflect.ValueOf(x)) {
			parts = append(parts, part{l.Pointer(), l.Pointer() + uintptr(l.Len())*l.Type().Elem().Size()})
		}
	}
	slices.SortFunc(parts, func(a, b part) int { return cmp.Compare(a.begin, b.begin) })
	for i, x := range parts[min(1, len(parts)):] {
		if x.begin < parts[i].end {
			t.Fatalf("of %d lists some share memory", len(parts))
		}
	}
}

// withMore is something in memory of its own, with other things of the same types behind the end of each list.
func withMore[T any](x T, behind ...any) T {
	x = copied(x)
	var put func(x reflect.Value)
	put = func(x reflect.Value) {
		switch x.Kind() {
		case reflect.Struct:
			for i := range x.NumField() {
				put(x.Field(i))
			}
		case reflect.Slice:
			n := x.Len()
			more := reflect.MakeSlice(x.Type(), n+2, n+2)
			for i := range n {
				put(x.Index(i))
				more.Index(i).Set(x.Index(i))
			}
			for _, other := range behind {
				if reflect.TypeOf(other) == x.Type().Elem() {
					more.Index(n).Set(reflect.ValueOf(other))
				}
			}
			x.Set(more.Slice(0, n))
		}
	}
	put(reflect.ValueOf(&x).Elem())
	return x
}

// TestR3NothingIsReadBehindTheEnds has wrong things behind the ends of all lists.
func TestR3NothingIsReadBehindTheEnds(t *testing.T) {
	calls, modules := newGenerator(10).calls(t, 400)
	for i, c := range calls {
		x, more := tableOf(t, modules[i]), withMore(c, endlessType("nope"), []api.Expr{endlessPattern(api.Tup, "")}, endlessPattern(api.Make, "c0"), endlessValue(api.Tuple, ""), bound("X", num(77)))
		if got, want := more.answer(x), c.answer(x); !same(got, want) {
			t.Fatalf("%+v, not %+v", got, want)
		}
	}
}

// TestR3NothingIsChanged compares all that was handed in, with what is behind the ends of lists, with a copy of it.
func TestR3NothingIsChanged(t *testing.T) {
	calls, modules := newGenerator(11).calls(t, 400)
	for i, c := range calls {
		more := withMore(c, typ("int"), row(anything()), variable("X"), num(1), bound("X", num(7)))
		want := copied(more)
		more.answer(tableOf(t, modules[i]))
		before, after := listsIn(reflect.ValueOf(want)), listsIn(reflect.ValueOf(more))
		for k := range before {
			if len(before) != len(after) || !reflect.DeepEqual(before[k].Interface(), after[k].Interface()) {
				t.Fatalf("changed: %v", after[k])
			}
		}
	}
}

// TestR3NewMemory has what was handed in, and the results of several calls, apart from one another, also within each result.
func TestR3NewMemory(t *testing.T) {
	calls, modules := newGenerator(12).calls(t, 400)
	for i, c := range calls {
		x := tableOf(t, modules[i])
		first, again := c.answer(x), c.answer(x)
		want := copied(again)
		checkApart(t, c, first, again)
		for _, l := range append(listsIn(reflect.ValueOf(c)), listsIn(reflect.ValueOf(first))...) {
			for k := range l.Len() {
				l.Index(k).SetZero()
			}
		}
		if !same(again, want) {
			t.Error("another result has changed")
		}
	}
	shared := []api.Value{num(1), num(2)}
	v := tuple(tuple(shared...), tuple(shared...), tuple(shared...))
	v.L[0].L, v.L[1].L, v.L[2].L = shared, shared, shared
	l, ok := cover.Match(tup(variable("X"), variable("Y"), variable("X")), v, []cover.Bound{bound("A", v.L[0]), bound("B", v.L[0]), bound("A", v.L[1])})
	if !ok || len(l) != 5 {
		t.Errorf("%v, %v", l, ok)
	}
	checkApart(t, shared, l)
}

// TestR2TheArgumentsAlone calls with other arguments in between, in many goroutines, with tables that they share.
func TestR2TheArgumentsAlone(t *testing.T) {
	calls, modules := newGenerator(13).calls(t, 60)
	var tables []*decl.Table
	var want []answer
	for i, c := range calls {
		tables = append(tables, tableOf(t, modules[i]))
		want = append(want, c.answer(tables[i]))
	}
	var group sync.WaitGroup
	for n := range 8 {
		group.Go(func() {
			for k := range calls {
				i := (k*7 + n*5) % len(calls)
				if got := calls[i].answer(tables[i]); !same(got, want[i]) {
					t.Errorf("%+v, not %+v", got, want[i])
				}
			}
		})
	}
	group.Wait()
}

// TestR2TheSameEachTime has the same arguments several times, also with a table that was made again.
func TestR2TheSameEachTime(t *testing.T) {
	calls, modules := newGenerator(14).calls(t, 200)
	for i, c := range calls {
		x := tableOf(t, modules[i])
		want := c.answer(x)
		for n := range 5 {
			if n == 3 {
				x = tableOf(t, modules[i])
			}
			if got := c.answer(x); !same(got, want) {
				t.Fatalf("%+v, and then %+v", want, got)
			}
		}
	}
}

// TestR6EmptyLists has empty lists that are nil, and others that are not.
func TestR6EmptyLists(t *testing.T) {
	calls, modules := newGenerator(15).calls(t, 400)
	for i, c := range calls {
		x := tableOf(t, modules[i])
		if got, want := emptied(c).answer(x), plain(c).answer(x); !same(got, want) {
			t.Fatalf("%+v, not %+v", got, want)
		}
	}
	x := declaredTable(t)
	for _, xs := range [][]api.Type{nil, {}} {
		for _, rows := range [][][]api.Expr{nil, {}, {nil}, {{}}, {nil, {}}} {
			if all, e := cover.Covers(x, xs, rows); all != (len(rows) > 0) || e != api.OK {
				t.Errorf("%v, %v", all, e)
			}
			if l, e := cover.Useless(x, xs, rows); len(l) != max(0, len(rows)-1) || e != api.OK {
				t.Errorf("%v, %v", l, e)
			}
		}
	}
	for _, l := range [][]cover.Bound{nil, {}} {
		if got, ok := cover.Match(api.Expr{Kind: api.Tup, Args: []api.Expr{}}, api.Value{Kind: api.Tuple}, l); !ok || len(got) != 0 {
			t.Errorf("%v, %v", got, ok)
		}
	}
}

// emptied is something in which each empty list is not nil.
func emptied[T any](x T) T {
	x = plain(x)
	var visit func(x reflect.Value)
	visit = func(x reflect.Value) {
		switch x.Kind() {
		case reflect.Slice:
			if x.IsNil() {
				x.Set(reflect.MakeSlice(x.Type(), 0, 0))
			}
			for i := range x.Len() {
				visit(x.Index(i))
			}
		case reflect.Struct:
			for i := range x.NumField() {
				visit(x.Field(i))
			}
		}
	}
	visit(reflect.ValueOf(&x).Elem())
	return x
}
