package value_test

import (
	"reflect"
	"slices"
	"testing"

	"corollary/api"
	"corollary/value"
)

func checkSort(t *testing.T, l, want [][]api.Value) {
	t.Helper()
	if got := value.Sort(l); !slices.EqualFunc(got, want, same) {
		t.Errorf("Sort(%v): %v, not %v", l, got, want)
	}
}

func TestP2_2Sort(t *testing.T) {
	one, two, three := row(num(1)), row(num(2)), row(num(3))
	checkSort(t, nil, nil)
	checkSort(t, [][]api.Value{}, nil)
	checkSort(t, [][]api.Value{nil}, [][]api.Value{nil})
	checkSort(t, [][]api.Value{{}, nil, {}}, [][]api.Value{nil})
	checkSort(t, [][]api.Value{one}, [][]api.Value{one})
	checkSort(t, [][]api.Value{two, one, two}, [][]api.Value{one, two})
	checkSort(t, [][]api.Value{one, one, one, one}, [][]api.Value{one})
	checkSort(t, [][]api.Value{three, one, two, three, two, one, nil}, [][]api.Value{nil, one, two, three})
	checkSort(t, [][]api.Value{row(num(1), num(2)), one, row(num(1), num(-2)), row(long("10")), row(long("9")), row(text("9")), row(text("10"))},
		[][]api.Value{one, row(num(1), num(-2)), row(num(1), num(2)), row(long("9")), row(long("10")), row(text("10")), row(text("9"))})
}

func TestP2_2SortOfShuffledRows(t *testing.T) {
	g := newGenerator(6)
	want := increasingRows()
	for range 100 {
		l := append(slices.Clone(want), want[g.IntN(len(want)):]...)
		g.Shuffle(len(l), func(i, k int) { l[i], l[k] = l[k], l[i] })
		checkSort(t, l, want)
	}
}

// TestP2_2SortOfManyRows holds the result against what it must be: rows in order, and just those that were given.
func TestP2_2SortOfManyRows(t *testing.T) {
	g := newGenerator(7)
	for _, n := range []int{2, 10, 1000, 20000} {
		l := make([][]api.Value, n)
		given := map[string]bool{}
		for i := range l {
			l[i] = g.values(g.IntN(3), 2)
			given[value.Show(cons("row", l[i]...))] = true
		}
		got := value.Sort(l)
		for i, r := range got {
			if i > 0 && value.CmpRows(got[i-1], r) != -1 {
				t.Errorf("%v before %v", got[i-1], r)
			}
			if !given[value.Show(cons("row", r...))] {
				t.Errorf("%v was not given", r)
			}
		}
		if len(got) != len(given) {
			t.Errorf("%d rows, not %d", len(got), len(given))
		}
	}
}

// TestP2_2SortKeepsTheFirstInvalidRow has rows with invalid values, which are all equal to one another, and last.
func TestP2_2SortKeepsTheFirstInvalidRow(t *testing.T) {
	one := row(num(1))
	for _, x := range [][2][]api.Value{
		{row(api.Value{Kind: 9, N: 7, S: "a", L: row(num(1), tuple(num(2)))}), row(api.Value{Kind: 9})}, {row(boolean(2)), row(boolean(3))}, {row(num(0), boolean(2), num(3)), row(boolean(2))},
		{row(nested(65, num(1))), row(api.Value{})}, {row(long(nines(201)), num(1)), row(num(-1), api.Value{})}, {row(nested(60000, num(1))), row(boolean(2))},
	} {
		first, second := x[0], x[1]
		checkSort(t, [][]api.Value{first, second}, [][]api.Value{first})
		checkSort(t, [][]api.Value{second, first}, [][]api.Value{second})
		checkSort(t, [][]api.Value{first, one, second, nil, first, one}, [][]api.Value{nil, one, first})
		checkSort(t, [][]api.Value{second, row(nested(64, num(1))), first, one}, [][]api.Value{one, row(nested(64, num(1))), second})
	}
	for _, v := range invalid() {
		got := value.Sort([][]api.Value{row(v), one, row(v, num(1)), row(num(1), v)})
		if len(got) != 2 || !same(got[0], one) || value.CmpRows(got[1], row(v)) != 0 {
			t.Errorf("Kind %d: %d rows", v.Kind, len(got))
		}
	}
}

// places are the places of all values in lists, up to their capacity; how often each is there.
func places(l [][]api.Value) map[*api.Value]int {
	found := map[*api.Value]int{}
	var visit func(l []api.Value)
	visit = func(l []api.Value) {
		l = l[:cap(l)]
		for i := range l {
			found[&l[i]]++
			visit(l[i].L)
		}
	}
	l = l[:cap(l)]
	for _, values := range l {
		visit(values)
	}
	return found
}

// sharedRows are rows that share their memory with one another, with memory behind their ends.
func sharedRows() [][]api.Value {
	items := row(num(1), text("a"), tuple(num(1), num(2)), num(9), cons("z"))[:4]
	inner := tuple(items[:2]...)
	l := [][]api.Value{row(inner, inner), items[:3], items[1:2], row(tuple(inner, tuple(inner, inner))), items[:3], row(cons("a", inner)), items[:0], row(api.Value{Kind: 9, L: items}), row(num(77))}
	return l[: len(l)-1 : len(l)]
}

func TestP2_2SortReturnsNewMemory(t *testing.T) {
	l := sharedRows()
	got := value.Sort(l)
	if len(got) != 7 {
		t.Fatalf("%d rows: %v", len(got), got)
	}
	given := places(l)
	for place, times := range places(got) {
		if given[place] > 0 || times > 1 {
			t.Errorf("%v: %d times in what was given, %d times in the result", *place, given[place], times)
		}
	}
	l, got = l[:cap(l)], got[:cap(got)]
	for i := range got {
		for k := range l {
			if &got[i] == &l[k] {
				t.Errorf("the place of row %d is that of row %d of those given", i, k)
			}
		}
	}
}

func TestP2_2SortChangesNothing(t *testing.T) {
	l, untouched := sharedRows(), sharedRows()
	got, again := value.Sort(l), value.Sort(sharedRows())
	if !reflect.DeepEqual(l[:cap(l)], untouched[:cap(untouched)]) {
		t.Errorf("%v, not %v", l[:cap(l)], untouched[:cap(untouched)])
	}
	for _, r := range l {
		for i := range r {
			r[i] = num(99)
		}
	}
	if !reflect.DeepEqual(got, again) {
		t.Errorf("%v has become %v", again, got)
	}
}

func TestP2_2SortReadsNoFurtherThanTheLength(t *testing.T) {
	l := [][]api.Value{row(num(2), api.Value{})[:1], row(num(1), tuple(num(1)))[:1], row(num(0))}
	checkSort(t, l[:2], [][]api.Value{row(num(1)), row(num(2))})
}

// TestAnyValuesEnd passes all kinds of values, valid or not, to every call.
func TestAnyValuesEnd(t *testing.T) {
	l := append(append(increasing(), invalid()...), api.Value{Kind: api.Int, L: endless().L}, api.Value{L: endless().L}, cons("a", endless(), endless()), tuple(endless(), nested(60000, num(1))))
	for _, v := range l {
		e, s := value.Check(v), value.Show(v)
		if (e == api.OK) != (s != "") || value.Cmp(v, v) != 0 || value.CmpRows(row(v, v), row(v, v)) != 0 {
			t.Errorf("Kind %d: %v, %q", v.Kind, e, s)
		}
		if got := value.Sort([][]api.Value{row(v), nil, row(v)}); len(got) != 2 || value.CmpRows(got[1], row(v)) != 0 {
			t.Errorf("Kind %d: %d rows", v.Kind, len(got))
		}
	}
	if e := value.Check(nested(1<<16, num(1))); e != api.ErrDeep {
		t.Errorf("depth 2^16: %v", e)
	}
}
