package module_test

import (
	"math/rand/v2"
	"slices"
	"strings"

	"corollary/api"
)

// generator makes the same things each time; no two positions are the same.
type generator struct {
	*rand.Rand
	line int
}

func newGenerator(seed uint64) *generator {
	return &generator{Rand: rand.New(rand.NewPCG(seed, 8))}
}

func pick[T any](g *generator, l ...T) T { return l[g.IntN(len(l))] }

// chance tells true once in n times.
func (g *generator) chance(n int) bool { return g.IntN(n) == 0 }

// many makes a list of some.
func many[T any](g *generator, least, most int, make func() T) []T {
	var l []T
	for range least + g.IntN(most-least+1) {
		l = append(l, make())
	}
	return l
}

func (g *generator) pos() api.Pos {
	g.line++
	return api.Pos{Line: g.line, Col: g.IntN(100)}
}

func allNames() []string { return strings.Fields("a b c d m n p q x y z") }

// names are some, all different.
func (g *generator) names(least, most int) []string {
	l := allNames()
	g.Shuffle(len(l), func(i, k int) { l[i], l[k] = l[k], l[i] })
	return l[:least+g.IntN(most-least+1)]
}

func (g *generator) name() string { return pick(g, allNames()...) }

func (g *generator) variable() string { return pick(g, "X", "Y", "A_b") }

func (g *generator) value() api.Value {
	return pick(g, api.Value{Kind: api.Bool, N: 1}, api.Value{Kind: api.Int, N: -1}, api.Value{Kind: api.Big, S: "12"}, api.Value{Kind: api.Text, S: "a"}, api.Value{Kind: api.Text, S: "a.b"}, api.Value{Kind: api.Text, S: "m.p"})
}

// linked are modules that have a program, and that program. full are the modules with all names in them qualified.
type linked struct {
	given, full []api.Module
	want        api.Module
}

// modules makes up to so many modules, each with up to so many of each kind of parts.
func (g *generator) modules(most, parts int) linked {
	full := g.declaring(g.names(1, most), parts)
	g.addImports(full)
	for i := range full {
		g.addUses(&full[i], full, parts)
	}
	x := linked{full: full, want: api.Module{Name: full[0].Name}}
	for _, m := range full {
		x.given = append(x.given, g.shortened(m))
		x.want.Types = append(x.want.Types, m.Types...)
		x.want.Rels = append(x.want.Rels, m.Rels...)
		x.want.Rules = append(x.want.Rules, m.Rules...)
		x.want.Nevers = append(x.want.Nevers, m.Nevers...)
	}
	return x
}

// declaring makes modules that have what they declare, but nothing that uses it.
func (g *generator) declaring(names []string, parts int) []api.Module {
	var l []api.Module
	for _, name := range names {
		m := api.Module{Name: name}
		constructors := g.names(11, 11)
		for _, s := range g.names(0, parts) {
			d := api.TypeDef{Pos: g.pos(), Pub: g.chance(2), Name: name + "." + s, Params: slices.Clone(pick(g, nil, []string{"'a"}, []string{"'b", "'a"}))}
			for range 1 + g.IntN(2) {
				d.Cons = append(d.Cons, api.ConsDef{Name: name + "." + constructors[0]})
				constructors = constructors[1:]
			}
			m.Types = append(m.Types, d)
		}
		for _, s := range g.names(0, parts) {
			m.Rels = append(m.Rels, api.RelDef{Pos: g.pos(), Pub: g.chance(2), Input: g.chance(2), Name: name + "." + s})
		}
		for _, s := range g.names(0, parts) {
			m.Nevers = append(m.Nevers, api.Never{Pos: g.pos(), Name: name + "." + s})
		}
		l = append(l, m)
	}
	return l
}

// addImports has modules import one another without a cycle.
func (g *generator) addImports(l []api.Module) {
	order := g.Perm(len(l))
	for i := range l {
		for _, k := range g.Perm(len(l)) {
			if order[k] < order[i] && !g.chance(3) {
				l[i].Imports = append(l[i].Imports, api.Import{Pos: g.pos(), Name: l[k].Name})
			}
		}
	}
}

// usable are the names that may be used in a module.
type usable struct{ types, constructors, rels, own []string }

func usableIn(m api.Module, l []api.Module) usable {
	var u usable
	for _, one := range l {
		itself := one.Name == m.Name
		if !itself && !slices.ContainsFunc(m.Imports, func(i api.Import) bool { return i.Name == one.Name }) {
			continue
		}
		for _, d := range one.Types {
			if itself || d.Pub {
				u.types = append(u.types, d.Name)
				for _, c := range d.Cons {
					u.constructors = append(u.constructors, c.Name)
				}
			}
		}
		for _, d := range one.Rels {
			if itself || d.Pub {
				u.rels = append(u.rels, d.Name)
			}
			if itself {
				u.own = append(u.own, d.Name)
			}
		}
	}
	return u
}

// addUses makes what uses names: fields, rules, and the bodies of nevers.
func (g *generator) addUses(m *api.Module, l []api.Module, parts int) {
	u := usableIn(*m, l)
	for i := range m.Types {
		d := &m.Types[i]
		for k := range d.Cons {
			d.Cons[k].Fields = many(g, 0, 2, func() api.FieldDef { return api.FieldDef{Name: pick(g, "", g.name()), Type: g.typ(u, 3, d.Params)} })
		}
	}
	for i := range m.Rels {
		m.Rels[i].Fields = many(g, 0, 2, func() api.FieldDef { return api.FieldDef{Name: g.name(), Type: g.typ(u, 3, nil)} })
	}
	if len(u.own) > 0 {
		m.Rules = many(g, 0, parts, func() api.Rule { return g.rule(u) })
	}
	for i := range m.Nevers {
		m.Nevers[i].Body = many(g, 1, 3, func() api.Literal { return g.literal(u) })
	}
}

func (g *generator) typ(u usable, depth int, parameters []string) api.Type {
	part := func() api.Type { return g.typ(u, depth-1, parameters) }
	switch {
	case len(u.types) > 0 && !g.chance(3):
		return api.Type{Name: pick(g, u.types...), Args: many(g, 0, min(depth-1, 2), part)}
	case depth > 1 && g.chance(2):
		return api.Type{Name: "tuple", Args: many(g, 2, 3, part)}
	}
	return api.Type{Name: pick(g, append([]string{"bool", "int", "big", "text", "tuple"}, parameters...)...)}
}

func (g *generator) rule(u usable) api.Rule {
	r := api.Rule{Pos: g.pos(), Rel: pick(g, u.own...), Args: many(g, 0, 3, func() api.Expr { return g.expr(u, 3) }), Body: many(g, 0, 3, func() api.Literal { return g.literal(u) })}
	for range r.Args {
		r.Aggs = append(r.Aggs, pick(g, "", "", "count", "sum", "min", "max"))
	}
	return r
}

func (g *generator) literal(u usable) api.Literal {
	pos := g.pos()
	switch n := g.IntN(4); {
	case n < 2 && len(u.rels) > 0:
		return api.Literal{Kind: pick(g, api.Atom, api.Not), Pos: pos, Rel: pick(g, u.rels...), Args: many(g, 0, 2, func() api.Expr { return g.pattern(u, 3) })}
	case n < 3:
		return api.Literal{Kind: api.Cond, Pos: pos, Args: []api.Expr{g.expr(u, 3)}}
	}
	return api.Literal{Kind: api.Bind, Pos: pos, Rel: g.variable(), Args: []api.Expr{g.expr(u, 3)}}
}

func (g *generator) pattern(u usable, depth int) api.Expr {
	if g.chance(5) {
		return api.Expr{Kind: api.Any, Pos: g.pos()}
	}
	return g.either(u, depth, func() api.Expr { return g.pattern(u, depth-1) })
}

func (g *generator) expr(u usable, depth int) api.Expr {
	part := func() api.Expr { return g.expr(u, depth-1) }
	if depth == 1 || g.chance(2) {
		return g.either(u, depth, part)
	}
	e := api.Expr{Kind: pick(g, api.Call, api.Call, api.Field, api.If), Pos: g.pos()}
	switch n := 1; e.Kind {
	case api.Call:
		e.Name = pick(g, "neg", "len", "not", "+", "==", "and")
		if !slices.Contains([]string{"neg", "len", "not"}, e.Name) {
			n = 2
		}
		e.Args = many(g, n, n, part)
	case api.Field:
		e.Name = g.name()
		e.Args = many(g, 1, 1, part)
	case api.If:
		e.Args = many(g, 3, 3, part)
	}
	return e
}

// either makes what may be an expression or a pattern.
func (g *generator) either(u usable, depth int, part func() api.Expr) api.Expr {
	pos := g.pos()
	switch {
	case len(u.constructors) > 0 && !g.chance(3):
		return api.Expr{Kind: api.Make, Pos: pos, Name: pick(g, u.constructors...), Args: many(g, 0, min(depth-1, 2), part)}
	case depth > 1 && g.chance(2):
		return api.Expr{Kind: api.Tup, Pos: pos, Args: many(g, 2, 3, part)}
	case g.chance(2):
		return api.Expr{Kind: api.Var, Pos: pos, Name: g.variable()}
	}
	return api.Expr{Kind: api.Lit, Pos: pos, Value: g.value()}
}

// shortened is a module as it is written: the names that it declares are without its own, and of those of its own that it uses some are.
func (g *generator) shortened(m api.Module) api.Module {
	m = copied(m)
	for _, x := range declaredBy(&m) {
		*x.name = strings.TrimPrefix(*x.name, m.Name+".")
	}
	for _, x := range usesIn(&m) {
		if g.chance(2) {
			*x.name = strings.TrimPrefix(*x.name, m.Name+".")
		}
	}
	return m
}
