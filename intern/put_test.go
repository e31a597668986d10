package intern_test

import (
	"slices"
	"testing"

	"corollary/api"
	"corollary/intern"
)

func checkPut(t *testing.T, x *intern.Table, v api.Value, want int) {
	t.Helper()
	if n, e := x.Put(v); n != want || e != api.OK {
		t.Errorf("Put(%s): %d, %v, not %d", brief(v), n, e, want)
	}
}

func checkPutRow(t *testing.T, x *intern.Table, l []api.Value, want ...int) {
	t.Helper()
	if got, e := x.PutRow(l); !slices.Equal(got, want) || e != api.OK {
		t.Errorf("PutRow(%s): %v, %v, not %v", brief(l...), got, e, want)
	}
}

// checkRefused requires that a value and a row are not put, with this error.
func checkRefused(t *testing.T, x *intern.Table, v api.Value, l []api.Value, want api.Errno) {
	t.Helper()
	if n, e := x.Put(v); n != 0 || e != want {
		t.Errorf("Put(%s): %d, %v, not %v", brief(v), n, e, want)
	}
	if got, e := x.PutRow(l); len(got) != 0 || e != want {
		t.Errorf("PutRow(%s): %v, %v, not %v", brief(l...), got, e, want)
	}
}

func TestP4_1New(t *testing.T) {
	x := intern.New()
	checkHas(t, x)
	checkMissing(t, x, different()...)
	for _, n := range []int{0, 1, -1} {
		if v, e := x.At(n); e != api.ErrNone || !isZero(v) {
			t.Errorf("At(%d): %s, %v", n, brief(v), e)
		}
	}
}

func TestP4_1Example(t *testing.T) {
	five, a, yes := num(5), text("a"), api.Value{Kind: api.Bool, N: 1}
	x := intern.New()
	checkPut(t, x, five, 0)
	checkPut(t, x, a, 1)
	checkPut(t, x, five, 0)
	checkHas(t, x, five, a)
	checkPutRow(t, x, []api.Value{a, yes, five}, 1, 2, 0)
	checkHas(t, x, five, a, yes)
	checkRefused(t, x, api.Value{}, []api.Value{{}}, api.ErrForm)
	checkHas(t, x, five, a, yes)
}

// TestP4_1PutOfDifferentValues puts them forwards, and then each again backwards.
func TestP4_1PutOfDifferentValues(t *testing.T) {
	l := different()
	x := intern.New()
	for i, v := range l {
		checkMissing(t, x, v)
		checkPut(t, x, v, i)
		if x.Len() != i+1 {
			t.Errorf("Len: %d, after %d values", x.Len(), i+1)
		}
	}
	for i, v := range slices.Backward(l) {
		checkPut(t, x, v, i)
	}
	checkHas(t, x, l...)
}

// TestP4_1PutOfTheSameInOtherMemory has the same values once more, and lists that are empty in either way.
func TestP4_1PutOfTheSameInOtherMemory(t *testing.T) {
	l := different()
	x := tableOf(t, l...)
	for i, v := range different() {
		checkPut(t, x, v, i)
		if len(v.L) == 0 {
			v.L = []api.Value{}
			checkPut(t, x, v, i)
		}
	}
	checkHas(t, x, l...)
	x = tableOf(t, api.Value{Kind: api.Cons, S: "a", L: []api.Value{}}, cons("a", api.Value{Kind: api.Tuple, L: []api.Value{}}))
	checkPutRow(t, x, []api.Value{cons("a"), cons("a", tuple())}, 0, 1)
	checkHas(t, x, cons("a"), cons("a", tuple()))
}

func TestP4_1PutRow(t *testing.T) {
	a, b, c, d := num(1), text("b"), tuple(num(1), text("b")), cons("d", num(1))
	x := intern.New()
	checkPutRow(t, x, nil)
	checkPutRow(t, x, []api.Value{})
	checkHas(t, x)
	checkPutRow(t, x, []api.Value{b}, 0)
	checkPutRow(t, x, []api.Value{a, a}, 1, 1)
	checkPutRow(t, x, []api.Value{c, a, c, b, c}, 2, 1, 2, 0, 2)
	checkPutRow(t, x, []api.Value{b, d, d, a, c}, 0, 3, 3, 1, 2)
	checkPutRow(t, x, nil)
	checkHas(t, x, b, a, c, d)
}

// TestP4_1PutRowOfManyValues puts more values than a tuple may have, each twice.
func TestP4_1PutRowOfManyValues(t *testing.T) {
	l := different()
	x := intern.New()
	numbers := upTo(len(l))
	checkPutRow(t, x, append(slices.Clone(l), l...), append(slices.Clone(numbers), numbers...)...)
	slices.Reverse(numbers)
	slices.Reverse(l)
	checkPutRow(t, x, l, numbers...)
	slices.Reverse(l)
	checkHas(t, x, l...)
}

func TestP4_1PutRefusesInvalidValues(t *testing.T) {
	for _, x := range []*intern.Table{intern.New(), tableOf(t, different()...)} {
		before := x.Len()
		for _, w := range invalid() {
			checkRefused(t, x, w.v, []api.Value{w.v}, w.e)
			checkMissing(t, x, w.v)
			if x.Len() != before {
				t.Fatalf("Len: %d, not %d, after an invalid value of Kind %d", x.Len(), before, w.v.Kind)
			}
		}
		checkPut(t, x, num(1234), before)
	}
}

// TestP4_1PutRowPutsAllOrNothing has an invalid value at each place of a row, the others of which are new, or there, or twice in it.
func TestP4_1PutRowPutsAllOrNothing(t *testing.T) {
	there, some := []api.Value{num(5), cons("a", num(5))}, []api.Value{text("new"), num(5), num(6), text("new"), tuple(num(6), num(7))}
	x := tableOf(t, there...)
	for _, w := range invalid() {
		for i := range len(some) + 1 {
			checkRefused(t, x, w.v, slices.Insert(slices.Clone(some), i, w.v), w.e)
			checkMissing(t, x, some[0], some[2], some[4], w.v)
			if x.Len() != len(there) {
				t.Fatalf("Len: %d, after a row that was refused", x.Len())
			}
		}
	}
	checkHas(t, x, there...)
	checkPutRow(t, x, some, 2, 0, 3, 2, 4)
	checkHas(t, x, append(there, some[0], some[2], some[4])...)
}

// TestErrorsOfARowAreThoseOfItsFirstInvalidValue has two invalid values in a row.
func TestErrorsOfARowAreThoseOfItsFirstInvalidValue(t *testing.T) {
	x := intern.New()
	for _, a := range invalid() {
		for _, b := range invalid() {
			checkRefused(t, x, a.v, []api.Value{num(1), a.v, num(2), b.v}, a.e)
		}
	}
	checkHas(t, x)
}

func TestP4_1Find(t *testing.T) {
	l := different()
	for i, v := range l {
		x := tableOf(t, l[:i]...)
		checkMissing(t, x, v)
		if i%10 == 0 {
			checkMissing(t, x, l[i:]...)
		}
		if x.Len() != i {
			t.Errorf("Len: %d, not %d, after Find", x.Len(), i)
		}
	}
	x := tableOf(t, l...)
	for _, w := range invalid() {
		checkMissing(t, x, w.v)
	}
	checkHas(t, x, l...)
}

// TestErrorsOfNil has arguments that are refused in a table, too: ErrNil is first.
func TestErrorsOfNil(t *testing.T) {
	var x *intern.Table
	checkRefused(t, x, num(1), []api.Value{num(1)}, api.ErrNil)
	checkRefused(t, x, num(1), nil, api.ErrNil)
	for _, w := range invalid() {
		checkRefused(t, x, w.v, []api.Value{num(1), w.v}, api.ErrNil)
		checkMissing(t, x, num(1), w.v)
	}
	for _, n := range []int{0, 1, -1} {
		checkNone(t, x, n, []int{n}, api.ErrNil)
		checkNone(t, x, n, nil, api.ErrNil)
	}
	if x.Len() != 0 {
		t.Errorf("Len of nil: %d", x.Len())
	}
}
