package module

import (
	"strings"

	"corollary/api"
)

// scope is a module in which names are used, and what they may mean there.
type scope struct {
	module   string
	imports  map[link]bool
	declared declarations
}

// linked is the program of all modules, in their order. A name without meaning is refused.
func linked(l []api.Module, imports map[link]bool, declared declarations) api.Module {
	program := api.Module{Name: l[0].Name}
	for _, m := range l {
		s := scope{m.Name, imports, declared}
		program.Types = append(program.Types, each(m.Types, s.typeDef)...)
		program.Rels = append(program.Rels, each(m.Rels, s.relDef)...)
		program.Rules = append(program.Rules, each(m.Rules, s.rule)...)
		program.Nevers = append(program.Nevers, each(m.Nevers, s.never)...)
	}
	return program
}

// each is a list in new memory, each in it changed as it is passed how. One that is empty is nil, whatever memory is behind its end.
func each[T any](l []T, change func(T) T) []T {
	if len(l) == 0 {
		return nil
	}
	changed := make([]T, len(l))
	for i, x := range l {
		changed[i] = change(x)
	}
	return changed
}

func asItIs(s string) string { return s }

// meaning is what a name means in the module.
func (s scope) meaning(of kind, name string, pos api.Pos) key {
	x := key{s.module, of, name}
	if module, own, dotted := strings.Cut(name, "."); dotted {
		x = key{module, of, own}
	}
	pub, there := s.declared[x]
	if !there || x.module != s.module && !(pub && s.imports[link{s.module, x.module}]) {
		throw(Where{s.module, pos}, api.ErrName)
	}
	return x
}

// used is a name that is used in the module, qualified.
func (s scope) used(of kind, name string, pos api.Pos) string {
	return s.meaning(of, name, pos).qualified()
}

// own is a name that the module declares, qualified.
func (s scope) own(name string) string { return key{module: s.module, name: name}.qualified() }

func (s scope) typeDef(d api.TypeDef) api.TypeDef {
	d.Name = s.own(d.Name)
	d.Params = each(d.Params, asItIs)
	d.Cons = each(d.Cons, func(c api.ConsDef) api.ConsDef {
		c.Name = s.own(c.Name)
		c.Fields = s.fields(c.Fields, d.Pos)
		return c
	})
	return d
}

func (s scope) relDef(d api.RelDef) api.RelDef {
	d.Name = s.own(d.Name)
	d.Fields = s.fields(d.Fields, d.Pos)
	return d
}

// fields are those of what stands at a position.
func (s scope) fields(l []api.FieldDef, pos api.Pos) []api.FieldDef {
	return each(l, func(f api.FieldDef) api.FieldDef {
		f.Type = s.typeOf(f.Type, pos)
		return f
	})
}

func (s scope) typeOf(t api.Type, pos api.Pos) api.Type {
	if !meansItself(t.Name) {
		t.Name = s.used(typeKind, t.Name, pos)
	}
	t.Args = each(t.Args, func(part api.Type) api.Type { return s.typeOf(part, pos) })
	return t
}

// meansItself tells whether a type of this name is the same in all modules.
func meansItself(name string) bool {
	switch name {
	case "bool", "int", "big", "text", "tuple":
		return true
	}
	return isParameter(name)
}

func (s scope) rule(r api.Rule) api.Rule {
	head := s.meaning(relKind, r.Rel, r.Pos)
	if head.module != s.module {
		throw(Where{s.module, r.Pos}, api.ErrName)
	}
	r.Rel = head.qualified()
	r.Args = each(r.Args, s.expr)
	r.Aggs = each(r.Aggs, asItIs)
	r.Body = each(r.Body, s.literal)
	return r
}

func (s scope) never(n api.Never) api.Never {
	n.Name = s.own(n.Name)
	n.Body = each(n.Body, s.literal)
	return n
}

func (s scope) literal(l api.Literal) api.Literal {
	if l.Kind == api.Atom || l.Kind == api.Not {
		l.Rel = s.used(relKind, l.Rel, l.Pos)
	}
	l.Args = each(l.Args, s.expr)
	return l
}

// expr is an expression, or a pattern: its own constructor before those in its arguments.
func (s scope) expr(e api.Expr) api.Expr {
	if e.Kind == api.Make {
		e.Name = s.used(consKind, e.Name, e.Pos)
	}
	e.Value.L = nil // it is empty, but may have memory behind its end
	e.Args = each(e.Args, s.expr)
	return e
}
