package decl

import (
	"slices"

	"corollary/api"
)

// What a program is given is nested at most so deep, and has at most so many parts, each of which takes 40 bytes or more (DOC.md, Limits).
const (
	givenDepth = 1 << 16
	givenParts = (1<<31 - 1) / 40
)

// What is directly within a type, a value.
func typeParts(x api.Type) []api.Type    { return x.Args }
func valueParts(v api.Value) []api.Value { return v.L }

// fits tells whether something has no more than so many parts, which it takes away, and levels. It looks no further than these,
// for what it is given may contain itself.
func fits[T any](x T, room *int, levels int, parts func(T) []T) bool {
	*room--
	return *room >= 0 && levels > 0 && !slices.ContainsFunc(parts(x), func(part T) bool { return !fits(part, room, levels-1, parts) })
}

// fitsReplaced tells the same of a type with others in the place of parameters.
func fitsReplaced(x api.Type, by map[string]api.Type, room *int, levels int) bool {
	if other, there := by[x.Name]; there {
		return fits(other, room, levels, typeParts)
	}
	*room--
	return *room >= 0 && levels > 0 && !slices.ContainsFunc(x.Args, func(arg api.Type) bool { return !fitsReplaced(arg, by, room, levels-1) })
}
