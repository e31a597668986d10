package unify

import (
	"slices"

	"corollary/api"
)

// fits tells whether a type has no more than so many parts, which it takes away, and levels. It looks no further than these,
// for the type may contain itself.
func fits(x api.Type, parts *int, levels int) bool {
	*parts--
	return *parts >= 0 && levels > 0 && !slices.ContainsFunc(x.Args, func(arg api.Type) bool { return !fits(arg, parts, levels-1) })
}

// allParts tells whether something is true of all parts of a type. They are visited from the left, up to one of which it is not.
func allParts(x api.Type, is func(api.Type) bool) bool {
	return is(x) && !slices.ContainsFunc(x.Args, func(arg api.Type) bool { return !allParts(arg, is) })
}

func allValid(l []api.Type) bool {
	return !slices.ContainsFunc(l, func(x api.Type) bool { return !May(x) })
}

// same tells whether two types are the same, if there are no more than so many parts and levels.
func same(x, y api.Type, parts *int, levels int) bool {
	*parts--
	return *parts >= 0 && levels > 0 && x.Name == y.Name &&
		slices.EqualFunc(x.Args, y.Args, func(p, q api.Type) bool { return same(p, q, parts, levels-1) })
}

// replaced is a type, in new memory, with others in the place of some variables.
func replaced(x api.Type, by map[string]api.Type) api.Type {
	if other, there := by[x.Name]; there && IsVar(x) {
		return replaced(other, nil)
	}
	return api.Type{Name: x.Name, Args: allReplaced(x.Args, by)}
}

func allReplaced(l []api.Type, by map[string]api.Type) []api.Type {
	return list(len(l), func(i int) api.Type { return replaced(l[i], by) })
}

// list has so many types, each made by its index.
func list(n int, at func(i int) api.Type) []api.Type {
	if n == 0 {
		return nil
	}
	l := make([]api.Type, n)
	for i := range l {
		l[i] = at(i)
	}
	return l
}

// asGiven are types, some of them invalid, in new memory. Where there is more than a program may be given, as in a type
// that contains itself, only the Name can be returned.
func asGiven(l []api.Type) []api.Type {
	parts := givenParts
	return list(len(l), func(i int) api.Type {
		if !fits(l[i], &parts, givenDepth) {
			return api.Type{Name: l[i].Name}
		}
		return replaced(l[i], nil)
	})
}
