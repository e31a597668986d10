package value_test

import (
	"cmp"
	"slices"
	"testing"

	"corollary/api"
	"corollary/value"
)

// checkOrder compares two values, as they are and as rows.
func checkOrder(t *testing.T, a, b api.Value, want int) {
	t.Helper()
	if order := value.Cmp(a, b); order != want {
		t.Errorf("Cmp(%v, %v): %d, not %d", a, b, order, want)
	}
	checkRows(t, row(a), row(b), want)
}

func checkRows(t *testing.T, a, b []api.Value, want int) {
	t.Helper()
	if order := value.CmpRows(a, b); order != want {
		t.Errorf("CmpRows(%v, %v): %d, not %d", a, b, order, want)
	}
}

func TestP2_1CmpOfAllPairs(t *testing.T) {
	l := increasing()
	for i, a := range l {
		for k, b := range l {
			checkOrder(t, a, b, cmp.Compare(i, k))
		}
	}
}

// TestP2_1CmpInside compares values that differ only deep inside, and whose other values are equal.
func TestP2_1CmpInside(t *testing.T) {
	l := slices.DeleteFunc(increasing(), func(v api.Value) bool { return value.Check(nested(5, v)) != api.OK })
	for i, a := range l {
		for k, b := range l {
			want := cmp.Compare(i, k)
			checkOrder(t, tuple(num(1), a, text("b")), tuple(num(1), b, text("a")), cmp.Or(want, 1))
			checkOrder(t, cons("a", cons("b", a)), cons("a", cons("b", b)), want)
			checkRows(t, row(text("a"), a, tuple(a, a), num(0)), row(text("a"), b, tuple(b, a), num(0)), want)
		}
	}
}

func TestP2_1CmpOfEmptyLists(t *testing.T) {
	empty := func(v api.Value) api.Value {
		v.L = []api.Value{}
		return v
	}
	for _, v := range []api.Value{boolean(1), num(1), long("1"), text("a"), tuple(), cons("a")} {
		checkOrder(t, v, empty(v), 0)
		checkOrder(t, tuple(empty(v), v), tuple(v, empty(v)), 0)
	}
	checkRows(t, nil, []api.Value{}, 0)
}

func TestP2_1CmpOfInvalidValues(t *testing.T) {
	for _, a := range invalid() {
		for _, b := range increasing() {
			checkOrder(t, a, b, 1)
			checkOrder(t, b, a, -1)
		}
	}
	for _, a := range invalid() {
		checkOrder(t, a, a, 0)
		for _, b := range []api.Value{{}, boolean(2), long("01"), long(nines(201)), tuple(num(1)), tuple(a, num(1)), cons("A"), nested(65, num(1)), endless()} {
			checkOrder(t, a, b, 0)
			checkOrder(t, b, a, 0)
		}
	}
}

// increasingRows are rows, each of which is before the next one; the last ones contain invalid values.
func increasingRows() [][]api.Value {
	return [][]api.Value{
		nil, row(boolean(0)), row(boolean(0), boolean(0)), row(boolean(0), boolean(0), cons("a")), row(boolean(0), boolean(1)), row(boolean(0), cons("z")), row(boolean(1)), row(boolean(1), boolean(0)),
		row(num(-1)), row(num(1)), row(num(1), num(2)), row(num(1), num(2), num(-3)), row(num(1), num(3)), row(num(1), num(20)), row(num(1), text("a")), row(num(2)), row(num(2), num(1)), row(num(10)),
		times(19, num(11)), times(20, num(11)), times(200, num(11)), row(num(11), num(12)), row(long("-10")), row(long("-9")), row(long("9"), tuple()), row(long("10")), row(text("")), row(text("a"), num(1)), row(text("a"), num(2)), row(text("aa"), num(0)),
		row(tuple(num(1), num(2)), num(9)), row(tuple(num(1), num(2)), num(10)), row(tuple(num(1), num(3)), num(0)), row(cons("a")), row(cons("a", num(1))), row(cons("b"), num(1)), row(nested(64, num(1)), num(1)), row(nested(64, num(1)), num(2)),
	}
}

func TestP2_1CmpRowsOfAllPairs(t *testing.T) {
	l := increasingRows()
	for i, a := range l {
		for k, b := range l {
			checkRows(t, a, b, cmp.Compare(i, k))
			checkRows(t, a, slices.Clone(a), 0)
		}
	}
}

func TestP2_1CmpRowsWithInvalidValues(t *testing.T) {
	for _, v := range invalid() {
		for _, a := range [][]api.Value{row(v), row(v, num(1)), row(num(1), v), row(num(-5), num(1), v), append(times(30, num(1)), v)} {
			for _, b := range increasingRows() {
				checkRows(t, a, b, 1)
				checkRows(t, b, a, -1)
			}
			for _, b := range [][]api.Value{row(api.Value{}), row(num(100), boolean(2)), row(cons("z"), nested(65, num(1))), a} {
				checkRows(t, a, b, 0)
				checkRows(t, b, a, 0)
			}
		}
	}
}

func TestP2_1CmpReadsNoFurtherThanTheLength(t *testing.T) {
	l := row(num(1), num(2), num(3), api.Value{})
	checkRows(t, l[:2], l[:3], -1)
	checkRows(t, l[:2], row(num(1), num(2)), 0)
	checkOrder(t, tuple(l[:3]...), tuple(l[:2]...), 1)
}

// TestP2_3AnOrder compares many values with one another: the other way round the order is the opposite, two that are in order with a third one are so with each other, and only identical ones are equal.
func TestP2_3AnOrder(t *testing.T) {
	g := newGenerator(3)
	equal := 0
	for range 100000 {
		a, b, c := g.value(3), g.value(3), g.value(3)
		order := value.Cmp(a, b)
		if order < -1 || order > 1 || value.Cmp(b, a) != -order {
			t.Fatalf("%v, %v: %d, and %d", a, b, order, value.Cmp(b, a))
		}
		if (order == 0) != same(row(a), row(b)) {
			t.Fatalf("%v, %v: %d", a, b, order)
		}
		if order == 0 {
			equal++
		}
		if order <= 0 && value.Cmp(b, c) <= 0 && value.Cmp(a, c) != min(order, value.Cmp(b, c)) {
			t.Fatalf("%v, %v, %v: not transitive", a, b, c)
		}
	}
	if equal < 1000 {
		t.Errorf("only %d pairs were equal", equal)
	}
}

func TestP2_3AnOrderOfRows(t *testing.T) {
	g := newGenerator(4)
	makeRow := func() []api.Value {
		l := g.values(g.IntN(4), 2)
		if len(l) > 0 && g.IntN(8) == 0 {
			l[g.IntN(len(l))] = pick(g, api.Value{}, boolean(2), tuple(num(1)), cons("A"), nested(65, num(1)))
		}
		return l
	}
	isInvalid := func(l []api.Value) bool {
		return slices.ContainsFunc(l, func(v api.Value) bool { return value.Check(v) != api.OK })
	}
	for range 100000 {
		a, b, c := makeRow(), makeRow(), makeRow()
		order := value.CmpRows(a, b)
		if order < -1 || order > 1 || value.CmpRows(b, a) != -order || value.CmpRows(a, a) != 0 {
			t.Fatalf("%v, %v: %d, and %d", a, b, order, value.CmpRows(b, a))
		}
		if (order == 0) != (isInvalid(a) && isInvalid(b) || !isInvalid(a) && !isInvalid(b) && same(a, b)) {
			t.Fatalf("%v, %v: %d", a, b, order)
		}
		if order <= 0 && value.CmpRows(b, c) <= 0 && value.CmpRows(a, c) != min(order, value.CmpRows(b, c)) {
			t.Fatalf("%v, %v, %v: not transitive", a, b, c)
		}
	}
}
