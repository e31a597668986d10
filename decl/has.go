package decl

import (
	"slices"

	"corollary/api"
)

// scope is what the parameters of a declared type stand for in its fields: types without parameters.
type scope struct {
	places map[string]int
	args   []api.Type
}

// meaning is a parameter's, or a type as it is. So no type has to be copied: in a declared type, which does not grow, no Arg is
// more than a parameter that is in it.
func (s scope) meaning(x api.Type) api.Type {
	if isParameter(x.Name) {
		return s.args[s.places[x.Name]]
	}
	return x
}

// has tells whether a valid value has a type that is as it must be.
func (t *Table) has(v api.Value, x api.Type, s scope) bool {
	x = s.meaning(x)
	switch v.Kind {
	case api.Bool:
		return x.Name == "bool"
	case api.Int:
		return x.Name == "int"
	case api.Big:
		return x.Name == "big"
	case api.Text:
		return x.Name == "text"
	case api.Tuple:
		return x.Name == "tuple" && slices.EqualFunc(v.L, x.Args, func(item api.Value, arg api.Type) bool { return t.has(item, arg, s) })
	}
	at, there := t.cons[v.S]
	if !there || at.of != x.Name {
		return false
	}
	d := t.types[at.of]
	inner := scope{d.places, each(x.Args, s.meaning)}
	return slices.EqualFunc(v.L, d.def.Cons[at.n].Fields, func(item api.Value, f api.FieldDef) bool { return t.has(item, f.Type, inner) })
}
