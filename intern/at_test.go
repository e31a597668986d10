package intern_test

import (
	"math"
	"slices"
	"testing"

	"corollary/api"
	"corollary/intern"
)

// checkNone requires that there is nothing for a number, and for a list of numbers, with this error.
func checkNone(t *testing.T, x *intern.Table, n int, l []int, want api.Errno) {
	t.Helper()
	if v, e := x.At(n); e != want || !isZero(v) {
		t.Errorf("At(%d): %s, %v, not %v", n, brief(v), e, want)
	}
	if row, e := x.Row(l); e != want || len(row) != 0 {
		t.Errorf("Row(%v): %s, %v, not %v", l, brief(row...), e, want)
	}
}

func TestP4_2At(t *testing.T) {
	l := different()
	x := tableOf(t, l...)
	for i, v := range slices.Backward(l) {
		if got, e := x.At(i); e != api.OK || !same([]api.Value{got}, []api.Value{v}) {
			t.Errorf("At(%d): %s, %v, not %s", i, brief(got), e, brief(v))
		}
	}
}

func TestP4_2Row(t *testing.T) {
	a, b, c := num(5), tuple(num(5), text("b")), cons("c")
	x := tableOf(t, a, b, c)
	for _, y := range []struct {
		numbers []int
		want    []api.Value
	}{
		{nil, nil}, {[]int{}, nil}, {[]int{0}, []api.Value{a}}, {[]int{1}, []api.Value{b}}, {[]int{2}, []api.Value{c}},
		{[]int{0, 1, 2}, []api.Value{a, b, c}}, {[]int{2, 1, 0}, []api.Value{c, b, a}}, {[]int{1, 1}, []api.Value{b, b}}, {[]int{2, 0, 2, 1, 1}, []api.Value{c, a, c, b, b}},
	} {
		if row, e := x.Row(y.numbers); e != api.OK || !same(row, y.want) {
			t.Errorf("Row(%v): %s, %v", y.numbers, brief(row...), e)
		}
	}
	if row, e := x.Row(slices.Repeat([]int{1, 2}, 5000)); e != api.OK || !same(row, slices.Repeat([]api.Value{b, c}, 5000)) {
		t.Errorf("a row of 10000: %d values, %v", len(row), e)
	}
	if row, e := intern.New().Row(nil); e != api.OK || len(row) != 0 {
		t.Errorf("Row of no numbers, without values: %s, %v", brief(row...), e)
	}
}

// TestP4_2NumbersOfNoValue has them alone, and at each place of a row.
func TestP4_2NumbersOfNoValue(t *testing.T) {
	l := []api.Value{num(5), text("a"), tuple(num(1), num(2))}
	x, none := tableOf(t, l...), intern.New()
	for _, n := range []int{-1, -2, -3, math.MinInt32, math.MinInt, 3, 4, 1 << 16, 1 << 32, math.MaxInt32, math.MaxInt} {
		for i := range 4 {
			checkNone(t, x, n, slices.Insert([]int{2, 0, 1}, i, n), api.ErrNone)
		}
		checkNone(t, x, n, []int{n}, api.ErrNone)
		checkNone(t, x, n, []int{n, -n}, api.ErrNone)
		checkNone(t, none, n, []int{n}, api.ErrNone)
	}
	checkNone(t, none, 0, []int{0}, api.ErrNone)
	checkHas(t, x, l...)
	checkPut(t, x, num(6), 3)
	checkHas(t, x, append(l, num(6))...)
}
