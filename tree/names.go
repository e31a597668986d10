package tree

import (
	"strings"

	"corollary/api"
)

// isName tells whether a text is a name, and not reserved.
func isName(s string) bool { return isLetters(s, 'a', 'z') && !isReserved(s) }

// isNameOrNone tells whether a text is empty, or a name.
func isNameOrNone(s string) bool { return s == "" || isName(s) }

// isLongName tells whether a text is a name, or two with a dot between them.
func isLongName(s string) bool {
	first, own, dotted := strings.Cut(s, ".")
	return isName(first) && (!dotted || isName(own))
}

func isVariable(s string) bool { return isLetters(s, 'A', 'Z') }

// isParameter tells whether a text is the name of a type's parameter.
func isParameter(s string) bool {
	name, marked := strings.CutPrefix(s, "'")
	return marked && isName(name)
}

// isLetters tells whether a text is a letter from the first to the last one, and then letters, digits and _.
func isLetters(s string, first, last byte) bool {
	return s != "" && len(s) <= api.MaxName && first <= s[0] && s[0] <= last && !strings.ContainsFunc(s, isNoPartOfNames)
}

func isNoPartOfNames(r rune) bool {
	return !('a' <= r && r <= 'z' || 'A' <= r && r <= 'Z' || '0' <= r && r <= '9' || r == '_')
}

func isReserved(s string) bool {
	switch s {
	case "module", "import", "pub", "type", "input", "rel", "never",
		"not", "and", "or", "if", "then", "else", "true", "false",
		"neg", "len", "bool", "int", "big", "text", "tuple":
		return true
	}
	return isAggregate(s)
}

func isAggregate(s string) bool {
	switch s {
	case "count", "sum", "min", "max":
		return true
	}
	return false
}

// isFunction tells whether what is called by this name is written before its arguments.
func isFunction(s string) bool {
	switch s {
	case "neg", "len", "big", "int":
		return true
	}
	return false
}

// newOperators are the operators and functions, with the number of their arguments.
func newOperators() map[string]int {
	return map[string]int{
		"+": 2, "-": 2, "*": 2, "/": 2, "%": 2, "++": 2,
		"==": 2, "!=": 2, "<": 2, "<=": 2, ">": 2, ">=": 2,
		"and": 2, "or": 2, "not": 1,
		"neg": 1, "len": 1, "big": 1, "int": 1,
	}
}
