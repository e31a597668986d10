package intern_test

import (
	"slices"
	"testing"

	"corollary/api"
	"corollary/intern"
)

// places calls a function with each place in lists of values, and in the lists within them, up to their capacity.
func places(call func(place *api.Value), l ...[]api.Value) {
	for _, values := range l {
		values = values[:cap(values)]
		for i := range values {
			call(&values[i])
			places(call, values[i].L)
		}
	}
}

// spoil changes all that a list of values has, and what is behind its end.
func spoil(l []api.Value) {
	var all []*api.Value
	places(func(place *api.Value) { all = append(all, place) }, l)
	for _, place := range all {
		*place = text("spoilt")
	}
}

// parts are values with lists at several depths. Each call makes them anew.
func parts() []api.Value {
	return []api.Value{tuple(num(1), num(2)), cons("a", tuple(num(1), cons("b", tuple(num(1), num(2)), text("c")))), num(3), cons("nil"), tuple(tuple(), tuple(num(1), num(2)))}
}

// TestP4_1PutKeepsNothingOfTheArgument changes what was put, with what is behind the ends of its lists.
func TestP4_1PutKeepsNothingOfTheArgument(t *testing.T) {
	x := intern.New()
	for i, v := range parts() {
		checkPut(t, x, v, i)
		spoil([]api.Value{v})
	}
	checkHas(t, x, parts()...)
	x = intern.New()
	l := append(parts(), num(9))[:5]
	checkPutRow(t, x, l, 0, 1, 2, 3, 4)
	spoil(l)
	checkHas(t, x, parts()...)
	checkMissing(t, x, text("spoilt"), num(9))
}

// TestP4_1PutChangesNothingInTheArgument has lists with more behind their ends, which is neither read nor changed.
func TestP4_1PutChangesNothingInTheArgument(t *testing.T) {
	items := []api.Value{num(1), num(2), {Kind: 9}, num(7)}
	row := []api.Value{tuple(items[:2]...), cons("a", items[1:2]...), cons("a", items[:0]...), num(3), {}, text("b")}
	x := intern.New()
	checkPutRow(t, x, row[:4], 0, 1, 2, 3)
	checkPutRow(t, x, row[3:4], 3)
	checkPut(t, x, row[1], 1)
	if n, there := x.Find(row[0]); n != 0 || !there {
		t.Errorf("Find: %d, %t", n, there)
	}
	checkHas(t, x, tuple(num(1), num(2)), cons("a", num(2)), cons("a"), num(3))
	if !same(items, []api.Value{num(1), num(2), {Kind: 9}, num(7)}) || !same(row, []api.Value{tuple(num(1), num(2)), cons("a", num(2)), cons("a"), num(3), {}, text("b")}) {
		t.Errorf("the arguments are %s, and %s", brief(items...), brief(row...))
	}
	if _, e := x.PutRow(row[:5]); e != api.ErrForm {
		t.Errorf("the row with no value: %v", e)
	}
}

// TestP4_1NumbersAreNewMemory changes the numbers that are returned, with what is behind their end.
func TestP4_1NumbersAreNewMemory(t *testing.T) {
	x := intern.New()
	first, e := x.PutRow(parts())
	second, f := x.PutRow(parts())
	if e != api.OK || f != api.OK {
		t.Fatal(e, f)
	}
	spoilt := first[:cap(first)]
	for i := range spoilt {
		spoilt[i] = 77
	}
	if !slices.Equal(second, upTo(5)) {
		t.Errorf("%v", second)
	}
	checkPutRow(t, x, parts(), upTo(5)...)
	checkHas(t, x, parts()...)
}

func TestP4_2ReturnsNewMemory(t *testing.T) {
	x := tableOf(t, parts()...)
	numbers := []int{0, 1, 2, 3, 4, 1, 0, 1}
	first, e := x.Row(numbers)
	second, f := x.Row(numbers)
	one, g := x.At(1)
	other, h := x.At(1)
	if e != api.OK || f != api.OK || g != api.OK || h != api.OK {
		t.Fatal(e, f, g, h)
	}
	found := map[*api.Value]int{}
	places(func(place *api.Value) { found[place]++ }, first, second, one.L, other.L)
	for place, times := range found {
		if times > 1 {
			t.Errorf("the place of %s is there %d times", brief(*place), times)
		}
	}
	spoil(first)
	spoil([]api.Value{one})
	if want := append(parts(), parts()[1], parts()[0], parts()[1]); !same(second, want) || !same([]api.Value{other}, want[1:2]) {
		t.Errorf("%s, and %s", brief(second...), brief(other))
	}
	checkHas(t, x, parts()...)
}

func TestP4_2RowReadsAndChangesNoMore(t *testing.T) {
	x := tableOf(t, parts()...)
	numbers := []int{3, 2, -1, 99}
	if row, e := x.Row(numbers[:2]); e != api.OK || !same(row, []api.Value{cons("nil"), num(3)}) {
		t.Errorf("%s, %v", brief(row...), e)
	}
	if !slices.Equal(numbers, []int{3, 2, -1, 99}) {
		t.Errorf("the numbers are %v", numbers)
	}
}
