package value

import (
	"slices"
	"strings"

	"corollary/api"
	"corollary/big"
)

// deeper tells whether a value is nested in more levels. It looks no further down than these.
func deeper(v api.Value, levels int) bool {
	return levels == 0 || slices.ContainsFunc(v.L, func(item api.Value) bool { return deeper(item, levels-1) })
}

// somewhere tells whether something is true of a value, or of one in it.
func somewhere(v api.Value, is func(api.Value) bool) bool {
	return is(v) || slices.ContainsFunc(v.L, func(item api.Value) bool { return somewhere(item, is) })
}

// malformed tells whether a value is not as its Kind requires, apart from lengths and from what is in its list.
func malformed(v api.Value) bool {
	hasN, hasS, hasL := v.N != 0, v.S != "", len(v.L) > 0
	switch v.Kind {
	case api.Bool:
		return v.N != 0 && v.N != 1 || hasS || hasL
	case api.Int:
		return hasS || hasL
	case api.Big:
		return hasN || hasL || big.Check(v.S) == api.ErrForm
	case api.Text:
		return hasN || hasL
	case api.Tuple:
		return hasN || hasS || len(v.L) == 1
	case api.Cons:
		return hasN || !isConstructor(v.S)
	}
	return true
}

// tooLarge tells whether a value that is well formed is too long, apart from what is in its list.
func tooLarge(v api.Value) bool {
	switch v.Kind {
	case api.Big:
		return big.Check(v.S) == api.ErrOver
	case api.Text:
		return len(v.S) > api.MaxString
	case api.Tuple:
		return len(v.L) > api.MaxItems
	case api.Cons:
		return len(v.L) > api.MaxFields
	}
	return false
}

// isConstructor tells whether a constructor may have this name, alone or after that of its module.
func isConstructor(s string) bool {
	if module, own, dotted := strings.Cut(s, "."); dotted {
		return isName(module) && isName(own)
	}
	return isName(s) && s != "true" && s != "false" // whose texts are those of the Bools
}

func isName(s string) bool {
	if s == "" || len(s) > api.MaxName || s[0] < 'a' || s[0] > 'z' {
		return false
	}
	return !strings.ContainsFunc(s, isNoPartOfNames)
}

func isNoPartOfNames(r rune) bool {
	return !('a' <= r && r <= 'z' || 'A' <= r && r <= 'Z' || '0' <= r && r <= '9' || r == '_')
}
