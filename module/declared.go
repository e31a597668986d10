package module

import (
	"slices"
	"strings"

	"corollary/api"
)

// kind is one of those whose names a module declares, each by itself.
type kind uint8

const (
	typeKind kind = iota
	consKind
	relKind
	neverKind
)

// key is what a module declares by a name.
type key struct {
	module string
	kind   kind
	name   string
}

// qualified is the name by which it is known everywhere.
func (k key) qualified() string { return k.module + "." + k.name }

// declarations are what modules declare, and whether it is visible in other modules.
type declarations map[key]bool

// declaredIn is what all modules declare. What is declared twice is refused, and a type with ' that is no parameter.
func declaredIn(l []api.Module) declarations {
	declared := declarations{}
	for _, m := range l {
		for _, d := range m.Types {
			declared.typeDef(m.Name, d)
		}
		for _, d := range m.Rels {
			declared.relDef(m.Name, d)
		}
		for _, n := range m.Nevers {
			declared.add(key{m.Name, neverKind, n.Name}, false, n.Pos)
		}
	}
	return declared
}

func (declared declarations) add(x key, pub bool, pos api.Pos) {
	if _, twice := declared[x]; twice {
		throw(Where{x.module, pos}, api.ErrTwice)
	}
	declared[x] = pub
}

func (declared declarations) typeDef(module string, d api.TypeDef) {
	declared.add(key{module, typeKind, d.Name}, d.Pub, d.Pos)
	at := Where{module, d.Pos}
	for i, parameter := range d.Params {
		if slices.Contains(d.Params[:i], parameter) {
			throw(at, api.ErrTwice)
		}
	}
	for _, c := range d.Cons {
		declared.add(key{module, consKind, c.Name}, d.Pub, d.Pos)
	}
	for _, c := range d.Cons { // after all that may be there twice
		requireParameters(c.Fields, d.Params, at)
	}
}

func (declared declarations) relDef(module string, d api.RelDef) {
	declared.add(key{module, relKind, d.Name}, d.Pub, d.Pos)
	requireParameters(d.Fields, nil, Where{module, d.Pos})
}

// requireParameters refuses a type with ' in fields, unless it is one of the parameters.
func requireParameters(fields []api.FieldDef, parameters []string, at Where) {
	var visit func(t api.Type)
	visit = func(t api.Type) {
		if isParameter(t.Name) && !slices.Contains(parameters, t.Name) {
			throw(at, api.ErrName)
		}
		for _, part := range t.Args {
			visit(part)
		}
	}
	for _, f := range fields {
		visit(f.Type)
	}
}

func isParameter(name string) bool { return strings.HasPrefix(name, "'") }

// requireRoom refuses modules that have too many of something, all together.
func requireRoom(l []api.Module) {
	var types, rels, rules, nevers int
	for _, m := range l {
		types += len(m.Types)
		rels += len(m.Rels)
		rules += len(m.Rules)
		nevers += len(m.Nevers)
	}
	if types > api.MaxTypes || rels > api.MaxRels || rules > api.MaxRules || nevers > api.MaxRules {
		throw(Where{}, api.ErrFull)
	}
}
