package decl

import "corollary/api"

// each is a list in new memory, of what is made of each in another one. One that is empty is nil, whatever memory is behind its end.
func each[A, B any](l []A, made func(A) B) []B {
	if len(l) == 0 {
		return nil
	}
	result := make([]B, len(l))
	for i, x := range l {
		result[i] = made(x)
	}
	return result
}

func asItIs(s string) string { return s }

// replaced is a type, in new memory, with others in the place of parameters.
func replaced(x api.Type, by map[string]api.Type) api.Type {
	if other, there := by[x.Name]; there {
		return copyType(other)
	}
	return api.Type{Name: x.Name, Args: each(x.Args, func(arg api.Type) api.Type { return replaced(arg, by) })}
}

func copyType(x api.Type) api.Type { return replaced(x, nil) }

func copyField(f api.FieldDef) api.FieldDef {
	return api.FieldDef{Name: f.Name, Type: copyType(f.Type)}
}

func copyConsDef(c api.ConsDef) api.ConsDef {
	c.Fields = each(c.Fields, copyField)
	return c
}

func copyTypeDef(d api.TypeDef) api.TypeDef {
	d.Params = each(d.Params, asItIs)
	d.Cons = each(d.Cons, copyConsDef)
	return d
}

func copyRelDef(d api.RelDef) api.RelDef {
	d.Fields = each(d.Fields, copyField)
	return d
}
