package value

import (
	"cmp"
	"slices"
	"strings"

	"corollary/api"
	"corollary/big"
)

// maxNesting is how deep what is given may be nested (DOC.md, Limits).
const maxNesting = 1 << 16

// valid is a value that is known to be valid, so that nothing is checked again on the way down.
type valid api.Value

// compare is -1, 0 or 1: a is before, equal to, after b.
func (a valid) compare(b valid) int {
	if a.Kind != b.Kind {
		return cmp.Compare(a.Kind, b.Kind)
	}
	switch a.Kind {
	case api.Bool, api.Int:
		return cmp.Compare(a.N, b.N)
	case api.Big:
		order, _ := big.Cmp(a.S, b.S)
		return order
	}
	// A Text has no list and a Tuple has no text: what they do not have is equal.
	return cmp.Or(strings.Compare(a.S, b.S), compareLists(a.L, b.L, valid.compare))
}

// compareLists is the order of the first two values that differ; a proper prefix is before what continues it.
func compareLists(a, b []api.Value, compare func(a, b valid) int) int {
	return slices.CompareFunc(a, b, func(x, y api.Value) int { return compare(valid(x), valid(y)) })
}

// row is a row of which it is known whether a value in it is invalid.
type row struct {
	values  []api.Value
	invalid bool
}

func checked(values []api.Value) row {
	return row{values, slices.ContainsFunc(values, func(v api.Value) bool { return Check(v) != api.OK })}
}

// compare is -1, 0 or 1: a is before, equal to, after b.
func (a row) compare(b row) int {
	switch {
	case a.invalid && b.invalid:
		return 0
	case a.invalid:
		return 1
	case b.invalid:
		return -1
	}
	return compareLists(a.values, b.values, valid.compare)
}

func (a row) equal(b row) bool { return a.compare(b) == 0 }

// copied are the values of a row in new memory.
func (a row) copied() []api.Value {
	l := slices.Clone(a.values)
	for i, v := range l {
		if deeper(v, maxNesting) { // it may contain itself, and has no copy then: a value that is equal to it stands for it
			v = api.Value{}
		}
		l[i] = copyOf(v)
	}
	return l
}

// copyOf is a value with lists of its own, all the way down.
func copyOf(v api.Value) api.Value {
	v.L = slices.Clone(v.L)
	for i, item := range v.L {
		v.L[i] = copyOf(item)
	}
	return v
}
