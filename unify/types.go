package unify

import (
	"slices"
	"strconv"
	"strings"

	"corollary/api"
)

// What a program is given is nested at most so deep, and has at most so many parts, each of which takes 40 bytes (DOC.md, Limits).
const (
	givenDepth = 1 << 16
	givenParts = (1<<31 - 1) / 40
)

// May tells whether a type is valid.
func May(x api.Type) bool {
	parts := MaxParts
	return fits(x, &parts, api.MaxDepth) && allParts(x, isType)
}

// IsVar tells whether a type is a variable.
func IsVar(x api.Type) bool {
	return strings.HasPrefix(x.Name, "'") && len(x.Name) > 1 && len(x.Args) == 0
}

// isType tells whether something is a type, apart from its Args.
func isType(x api.Type) bool {
	return IsVar(x) || x.Name != "" && !strings.HasPrefix(x.Name, "'")
}

// Vars are the names of the variables in types, each once.
func Vars(l []api.Type) []string {
	if !allValid(l) {
		return nil
	}
	var names []string
	seen := map[string]bool{}
	for _, x := range l {
		allParts(x, func(part api.Type) bool {
			if IsVar(part) && !seen[part.Name] {
				seen[part.Name] = true
				names = append(names, part.Name)
			}
			return true
		})
	}
	return names
}

// Subst is a type with others in the place of some variables.
func Subst(x api.Type, vars []string, by []api.Type) api.Type {
	if !May(x) || !allValid(by) {
		return asGiven([]api.Type{x})[0]
	}
	types := map[string]api.Type{}
	for i, name := range slices.Backward(vars[:min(len(vars), len(by))]) { // so that the first one of a name is the one that remains
		types[name] = by[i]
	}
	return replaced(x, types)
}

// Canon are types with other variables, in order, in the place of theirs.
func Canon(l []api.Type) []api.Type {
	if !allValid(l) {
		return asGiven(l)
	}
	by := map[string]api.Type{}
	for i, name := range Vars(l) {
		by[name] = api.Type{Name: canonName(i)}
	}
	return allReplaced(l, by)
}

// canonName is the one of a number: 'a to 'z, then 'a1 to 'z1, and so on.
func canonName(n int) string {
	name := "'" + string(rune('a'+n%26))
	if n < 26 {
		return name
	}
	return name + strconv.Itoa(n/26)
}

// Same tells whether two types are the same.
func Same(x, y api.Type) bool {
	parts := givenParts
	return same(x, y, &parts, givenDepth)
}
