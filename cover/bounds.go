package cover

import (
	"slices"

	"corollary/api"
	"corollary/tree"
	"corollary/value"
)

// What a program is given is nested at most so deep, and is at most 2^31 - 1 bytes (DOC.md, Limits): so many values, and so many
// patterns, of 56 bytes and of 120.
const (
	givenDepth    = 1 << 16
	givenValues   = (1<<31 - 1) / 56
	givenPatterns = (1<<31 - 1) / 120
)

// isPattern tells whether a pattern is valid. It takes the pattern's parts away from the room.
func isPattern(p api.Expr, room *int) bool {
	return boundedPattern(p, room, api.MaxDepth) && tree.Pattern(p)
}

// isValue tells whether a value is valid.
func isValue(v api.Value) bool {
	room := givenValues
	return boundedValue(v, &room, api.MaxDepth) && value.Check(v) == api.OK
}

// boundedPattern tells whether a pattern has no more than so many parts, and levels. It looks no further than these, for what it is
// given may contain itself; so may a value in it, but no valid pattern has a value with a list.
func boundedPattern(p api.Expr, room *int, levels int) bool {
	*room--
	return *room >= 0 && levels > 0 && len(p.Value.L) == 0 && all(p.Args, func(arg api.Expr) bool { return boundedPattern(arg, room, levels-1) })
}

// boundedValue tells the same of a value.
func boundedValue(v api.Value, room *int, levels int) bool {
	*room--
	return *room >= 0 && levels > 0 && all(v.L, func(item api.Value) bool { return boundedValue(item, room, levels-1) })
}

// all tells whether something is true of each in a list.
func all[T any](l []T, is func(T) bool) bool {
	return !slices.ContainsFunc(l, func(x T) bool { return !is(x) })
}
