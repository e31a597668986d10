package cover

import (
	"slices"

	"corollary/api"
)

// occurrences are the variables in a pattern, each as often as it occurs, with what is in its place.
type occurrences []Bound

// add adds those of a pattern. It tells false if the pattern does not match a value, whatever its variables stand for.
func (o *occurrences) add(p api.Expr, v api.Value) bool {
	switch p.Kind {
	case api.Any:
		return true
	case api.Var:
		*o = append(*o, Bound{p.Name, v})
		return true
	case api.Lit:
		return same(p.Value, v)
	}
	kind := api.Cons
	if p.Kind == api.Tup {
		kind = api.Tuple
	}
	return v.Kind == kind && v.S == p.Name && slices.EqualFunc(p.Args, v.L, o.add)
}

// unbound are the first occurrences of variables that are not in a list. It tells false if a variable would have several values.
func unbound(found occurrences, l []Bound) ([]Bound, bool) {
	values := map[string]api.Value{}
	for _, b := range slices.Backward(l) { // so that the first one of a name is the one that remains
		values[b.Name] = b.Value
	}
	var fresh []Bound
	for _, b := range found {
		v, known := values[b.Name]
		if known && !same(b.Value, v) {
			return nil, false
		}
		if !known {
			values[b.Name] = b.Value
			fresh = append(fresh, b)
		}
	}
	return fresh, true
}

// same tells whether two values are the same. The first one is valid, so that this ends, whatever the other one is.
func same(a, b api.Value) bool {
	return a.Kind == b.Kind && a.N == b.N && a.S == b.S && slices.EqualFunc(a.L, b.L, same)
}

// joined is what was bound and what is bound besides, in new memory.
func joined(l, fresh []Bound) []Bound {
	result := make([]Bound, 0, len(l)+len(fresh))
	room := givenValues
	for _, b := range l {
		if rest := room; boundedValue(b.Value, &rest, givenDepth) {
			room = rest
		} else {
			b.Value = api.Value{} // it may contain itself, and has no copy
		}
		result = append(result, Bound{b.Name, copied(b.Value)})
	}
	for _, b := range fresh {
		result = append(result, Bound{b.Name, copied(b.Value)})
	}
	return result
}

// copied is a value with lists of its own, all the way down.
func copied(v api.Value) api.Value {
	l := make([]api.Value, len(v.L))
	for i, item := range v.L {
		l[i] = copied(item)
	}
	v.L = l
	return v
}
