package decl

import (
	"slices"
	"strings"

	"corollary/api"
)

// isParameter tells whether a type of this name is a parameter.
func isParameter(name string) bool { return strings.HasPrefix(name, "'") }

// isPredefined tells whether a name means a type that no program declares.
func isPredefined(name string) bool {
	switch name {
	case "bool", "int", "big", "text", "tuple":
		return true
	}
	return isParameter(name)
}

// Which parameters there may be: any, or none.
func anyParameter(string) bool { return true }
func noParameter(string) bool  { return false }

// typeError is what is wrong with a type, where there may be some parameters. It takes the type's parts away from the room.
func (t *Table) typeError(x api.Type, mayBe func(parameter string) bool, room *int) api.Errno {
	switch {
	case !fits(x, room, api.MaxDepth, typeParts):
		return api.ErrDeep
	case !allParts(x, func(part api.Type) bool { return t.isType(part.Name, mayBe) }):
		return api.ErrName
	case !allParts(x, t.isFormed):
		return api.ErrType
	case t.grows(x):
		return api.ErrGrow
	}
	return api.OK
}

// allParts tells whether something is true of a type and of all types in it.
func allParts(x api.Type, is func(api.Type) bool) bool {
	return is(x) && !slices.ContainsFunc(x.Args, func(arg api.Type) bool { return !allParts(arg, is) })
}

// isType tells whether a name is that of a type, or of a parameter that there may be.
func (t *Table) isType(name string, mayBe func(parameter string) bool) bool {
	if isParameter(name) {
		return mayBe(name)
	}
	_, declared := t.types[name]
	return declared || isPredefined(name)
}

// isFormed tells whether a type has as many Args as it must have, whatever these are.
func (t *Table) isFormed(x api.Type) bool {
	n := len(x.Args)
	if x.Name == "tuple" {
		return n == 0 || 2 <= n && n <= api.MaxItems
	}
	return n == len(t.types[x.Name].def.Params) // none, if no program declares it
}

// grows tells whether a declared type, in a type that is well-formed, has an Arg that contains a parameter but is more than that.
func (t *Table) grows(x api.Type) bool {
	found := false
	var isOpen func(x api.Type) bool // it contains a parameter
	isOpen = func(x api.Type) bool {
		open := isParameter(x.Name)
		for _, arg := range x.Args {
			if isOpen(arg) {
				open = true
				found = found || !isPredefined(x.Name) && !isParameter(arg.Name)
			}
		}
		return open
	}
	isOpen(x)
	return found
}
