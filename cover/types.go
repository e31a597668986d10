package cover

import (
	"corollary/api"
	"corollary/decl"
)

// rowsError is the first error in types, and then in rows of patterns for them.
func rowsError(t *decl.Table, xs []api.Type, rows [][]api.Expr) api.Errno {
	switch {
	case t == nil:
		return api.ErrNil
	case !all(xs, t.Well):
		return api.ErrType
	}
	room := givenPatterns
	for _, row := range rows {
		switch {
		case !all(row, func(p api.Expr) bool { return isPattern(p, &room) }), !has(t, asTuple(row), tupleOf(xs)):
			return api.ErrType
		case hasTwice(row, map[string]bool{}):
			return api.ErrMatch
		}
	}
	return api.OK
}

// A row of patterns is as a pattern that is a tuple, except that there may be any number of them.
func asTuple(row []api.Expr) api.Expr   { return api.Expr{Kind: api.Tup, Args: row} }
func tupleOf(types []api.Type) api.Type { return api.Type{Name: "tuple", Args: types} }

// has tells whether a pattern has a type, both being as they must be.
func has(t *decl.Table, p api.Expr, x api.Type) bool {
	types, may := argTypes(t, p, x)
	if !may {
		return false
	}
	for i, arg := range p.Args {
		if !has(t, arg, types[i]) {
			return false
		}
	}
	return true
}

// argTypes are the types that the arguments of a pattern must have for it to have a type. It tells false if it cannot have that.
func argTypes(t *decl.Table, p api.Expr, x api.Type) ([]api.Type, bool) {
	switch p.Kind {
	case api.Lit:
		return nil, t.Is(p.Value, x)
	case api.Tup:
		return x.Args, x.Name == "tuple" && len(p.Args) == len(x.Args)
	case api.Make:
		return fieldTypes(t, p, x)
	}
	return nil, true
}

func fieldTypes(t *decl.Table, p api.Expr, x api.Type) ([]api.Type, bool) {
	c, there := t.Cons(p.Name)
	if !there || c.Type != x.Name || len(p.Args) != len(c.Fields) {
		return nil, false
	}
	var types []api.Type
	for _, f := range c.Fields {
		types = append(types, decl.Put(f.Type, c.Params, x.Args))
	}
	return types, true
}

// hasTwice tells whether a variable in patterns has been seen before.
func hasTwice(l []api.Expr, seen map[string]bool) bool {
	for _, p := range l {
		if p.Kind == api.Var {
			if seen[p.Name] {
				return true
			}
			seen[p.Name] = true
		}
		if hasTwice(p.Args, seen) {
			return true
		}
	}
	return false
}
