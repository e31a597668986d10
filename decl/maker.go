package decl

import "corollary/api"

// typeDef is a type as it is declared, and the places of its parameters (of several with the same name, the first one).
type typeDef struct {
	def    api.TypeDef
	places map[string]int
}

// place is which one of a type's constructors something is.
type place struct {
	of string
	n  int
}

// maker makes the table of a program.
type maker struct {
	*Table
	room int // how many parts of types and of expressions may still come
}

// tableOf is the table of a program, or the first error, which is a fault.
func tableOf(m api.Module) (*Table, error) {
	k := maker{&Table{map[string]typeDef{}, map[string]place{}, map[string]api.RelDef{}}, givenParts}
	for _, step := range []func(api.Module) error{k.addTypes, k.requireTypes, k.requireInhabited, k.addRels, k.requireUses} {
		if err := step(m); err != nil {
			return nil, err
		}
	}
	return k.Table, nil
}

// addTypes adds the names of types and of constructors. Those that are there already are refused.
func (k *maker) addTypes(m api.Module) error {
	for _, d := range m.Types {
		if _, twice := k.types[d.Name]; twice || isPredefined(d.Name) {
			return fault{d.Pos, api.ErrTwice}
		}
		k.types[d.Name] = typeDef{def: d} // until its fields are known to be right
		for i, c := range d.Cons {
			if _, twice := k.cons[c.Name]; twice || hasNameTwice(c.Fields) {
				return fault{d.Pos, api.ErrTwice}
			}
			k.cons[c.Name] = place{d.Name, i}
		}
	}
	return nil
}

func hasNameTwice(fields []api.FieldDef) bool {
	names := map[string]bool{}
	for _, f := range fields {
		if names[f.Name] {
			return true
		}
		names[f.Name] = f.Name != ""
	}
	return false
}

// requireTypes refuses wrong types in the fields of constructors, and adds types as they are declared.
func (k *maker) requireTypes(m api.Module) error {
	for _, d := range m.Types {
		places := placesOf(d.Params)
		isParam := func(name string) bool {
			_, there := places[name]
			return there
		}
		for _, c := range d.Cons {
			if err := k.requireFields(c.Fields, isParam, d.Pos); err != nil {
				return err
			}
		}
		k.types[d.Name] = typeDef{copyTypeDef(d), places}
	}
	return nil
}

// placesOf are the first places of names in a list.
func placesOf(names []string) map[string]int {
	places := map[string]int{}
	for i, name := range names {
		if _, earlier := places[name]; !earlier {
			places[name] = i
		}
	}
	return places
}

// requireFields refuses wrong types in fields that are declared at a position, where there may be some parameters.
func (k *maker) requireFields(fields []api.FieldDef, mayBe func(parameter string) bool, at api.Pos) error {
	for _, f := range fields {
		if e := k.typeError(f.Type, mayBe, &k.room); e != api.OK {
			return fault{at, e}
		}
	}
	return nil
}

// addRels adds relations. Those that are there already are refused, and wrong types in their fields.
func (k *maker) addRels(m api.Module) error {
	for _, d := range m.Rels {
		if _, twice := k.rels[d.Name]; twice || hasNameTwice(d.Fields) {
			return fault{d.Pos, api.ErrTwice}
		}
		if err := k.requireFields(d.Fields, anyParameter, d.Pos); err != nil {
			return err
		}
		k.rels[d.Name] = copyRelDef(d)
	}
	return nil
}
