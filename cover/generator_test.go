package cover_test

import (
	"math/rand/v2"
	"strconv"
	"testing"

	"corollary/api"
	"corollary/cover"
	"corollary/decl"
)

// generator makes the same things each time.
type generator struct{ *rand.Rand }

func newGenerator(seed uint64) *generator {
	return &generator{rand.New(rand.NewPCG(seed, 12))}
}

func pick[T any](g *generator, l ...T) T { return l[g.IntN(len(l))] }

// chance tells true once in n times.
func (g *generator) chance(n int) bool { return g.IntN(n) == 0 }

// many makes a list of some.
func many[T any](g *generator, least, most int, make func() T) []T {
	var l []T
	for range least + g.IntN(most-least+1) {
		l = append(l, make())
	}
	return l
}

// module declares some types that are inhabited as chapter 10 says.
func (g *generator) module(t *testing.T) (api.Module, *decl.Table) {
	t.Helper()
	for range 1000 {
		var m api.Module
		constructors := 0
		for i := range 1 + g.IntN(4) {
			d := typeDef("t" + strconv.Itoa(i))
			d.Params = []string{"'a", "'b"}[:g.IntN(3)]
			for range 1 + g.IntN(3) {
				d.Cons = append(d.Cons, api.ConsDef{Name: "c" + strconv.Itoa(constructors)})
				constructors++
			}
			m.Types = append(m.Types, d)
		}
		declares := m.Types
		if g.chance(3) {
			m.Types = append(m.Types, voidTypes()...)
		}
		for _, d := range declares {
			for k := range d.Cons {
				d.Cons[k].Fields = many(g, 0, 2, func() api.FieldDef { return field(g.typed(m, d.Params, 3)) })
			}
		}
		if x, _, e := decl.New(m); e == api.OK {
			return m, x
		}
	}
	t.Fatal("no module has a table")
	return api.Module{}, nil
}

// voidTypes are a type that no value has, though it is inhabited as chapter 10 says, and the one that this takes.
func voidTypes() []api.TypeDef {
	box := api.TypeDef{Name: "box", Params: []string{"'a"}, Cons: []api.ConsDef{{Name: "box", Fields: []api.FieldDef{field(typ("'a"))}}}}
	return []api.TypeDef{typeDef("void", api.ConsDef{Name: "void", Fields: []api.FieldDef{field(typ("box", typ("void")))}}), box}
}

// typed is a type of a module up to so many levels, with some parameters, that does not grow.
func (g *generator) typed(m api.Module, params []string, levels int) api.Type {
	plain := types("bool, bool, int, text, big, tuple")
	for _, name := range params {
		plain = append(plain, typ(name), typ(name), typ(name))
	}
	if levels == 1 || g.chance(4) {
		return pick(g, plain...)
	}
	if g.chance(5) {
		return typ("tuple", many(g, 2, 3, func() api.Type { return g.typed(m, params, levels-1) })...)
	}
	d := pick(g, m.Types...)
	x := typ(d.Name)
	for range d.Params {
		if len(params) > 0 && g.chance(2) {
			x.Args = append(x.Args, typ(pick(g, params...)))
		} else {
			x.Args = append(x.Args, g.typed(m, nil, levels-1))
		}
	}
	return x
}

// literal is one of few values of a type, if that has literals.
func (g *generator) literal(x api.Type) (api.Value, bool) {
	switch n := g.IntN(2); x.Name {
	case "bool":
		return boolean(int64(n)), true
	case "int":
		return num(int64(n)), true
	case "big":
		return long(strconv.Itoa(n)), true
	case "text":
		return text(strconv.Itoa(n)), true
	}
	return api.Value{}, false
}

// pattern is one of a type, of up to so many levels, with the next names of variables.
func (g *generator) pattern(m api.Module, x api.Type, levels int, next func() string) api.Expr {
	if levels == 0 || g.chance(3) {
		if g.chance(3) {
			return variable(next())
		}
		return anything()
	}
	if v, is := g.literal(x); is {
		return lit(v)
	}
	c, args := api.ConsDef{}, x.Args
	if x.Name != "tuple" {
		c = pick(g, declaredIn(m, x.Name).Cons...)
		args = fieldsOf(declaredIn(m, x.Name), c, x)
	}
	return g.formed(m, c.Name, args, levels, next)
}

// formed is a constructor, or a tuple if its name is empty, with patterns of types.
func (g *generator) formed(m api.Module, name string, args []api.Type, levels int, next func() string) api.Expr {
	var l []api.Expr
	for _, arg := range args {
		l = append(l, g.pattern(m, arg, levels-1, next))
	}
	if name == "" {
		return tup(l...)
	}
	return mk(name, l...)
}

// numbered makes names of variables, no two of which are the same.
func numbered() func() string {
	n := 0
	return func() string {
		n++
		return "X" + strconv.Itoa(n)
	}
}

// named makes few names of variables.
func (g *generator) named() func() string {
	return func() string { return pick(g, "X", "Y", "Z", "Xx") }
}

// rows are some for types: from one of Any on, each is divided by what is in one of its columns, and some are changed, taken away,
// or exchanged.
func (g *generator) rows(m api.Module, xs []api.Type) [][]api.Expr {
	anyRow := times(len(xs), anything())
	rows := [][]api.Expr{anyRow}
	for range g.IntN(7) {
		i := g.IntN(len(rows))
		rows = with(without(rows, i), i, g.divided(m, xs, rows[i])...)
	}
	if g.chance(2) && len(rows) > 0 {
		rows = without(rows, g.IntN(len(rows)))
	}
	for range g.IntN(4) {
		rows = with(rows, g.IntN(len(rows)+1), g.row(m, xs))
	}
	if g.chance(2) {
		g.Shuffle(len(rows), func(i, k int) { rows[i], rows[k] = rows[k], rows[i] })
	}
	return rows[:min(len(rows), 12)]
}

// row is one for types.
func (g *generator) row(m api.Module, xs []api.Type) []api.Expr {
	var l []api.Expr
	next := numbered()
	for _, x := range xs {
		l = append(l, g.pattern(m, x, 3, next))
	}
	return l
}

// divided are rows that match together what a row matches: what matches all in one place is replaced by each form.
func (g *generator) divided(m api.Module, xs []api.Type, l []api.Expr) [][]api.Expr {
	if len(l) == 0 {
		return [][]api.Expr{l}
	}
	i := g.IntN(len(l))
	var rows [][]api.Expr
	for _, p := range g.dividedPattern(m, xs[i], l[i]) {
		rows = append(rows, with(without(l, i), i, p))
	}
	return rows
}

func (g *generator) dividedPattern(m api.Module, x api.Type, p api.Expr) []api.Expr {
	if len(p.Args) > 0 {
		args := x.Args
		if p.Kind == api.Make {
			d := declaredIn(m, x.Name)
			for _, c := range d.Cons {
				if c.Name == p.Name {
					args = fieldsOf(d, c, x)
				}
			}
		}
		var l []api.Expr
		for _, divided := range g.divided(m, args, p.Args) {
			p.Args = divided
			l = append(l, p)
		}
		return l
	}
	if p.Kind != api.Any {
		return []api.Expr{p}
	}
	switch x.Name {
	case "bool":
		return row(lit(boolean(1)), lit(boolean(0)))
	case "int", "big", "text":
		v, _ := g.literal(x)
		return row(lit(v), p)
	case "tuple":
		return row(tup(times(len(x.Args), p)...))
	}
	var l []api.Expr
	for _, c := range declaredIn(m, x.Name).Cons {
		l = append(l, mk(c.Name, times(len(c.Fields), p)...))
	}
	return l
}

// valueFor is a value that a pattern matches, if its variables have the values that they have, or get here; changed in some places.
func (g *generator) valueFor(p api.Expr, values map[string]api.Value, odds int) api.Value {
	if odds > 0 && g.chance(odds) {
		return g.value(2)
	}
	switch p.Kind {
	case api.Lit:
		return p.Value
	case api.Any:
		return g.value(2)
	case api.Var:
		if _, known := values[p.Name]; !known {
			values[p.Name] = g.value(2)
		}
		return values[p.Name]
	}
	var l []api.Value
	for _, arg := range p.Args {
		l = append(l, g.valueFor(arg, values, odds))
	}
	if p.Kind == api.Tup {
		return tuple(l...)
	}
	return cons(p.Name, l...)
}

// value is any one of a few, of up to so many levels.
func (g *generator) value(levels int) api.Value {
	plain := []api.Value{num(0), num(1), boolean(1), long("1"), text("1"), tuple(), cons("c0"), cons("c1")}
	if levels == 1 || g.chance(2) {
		return pick(g, plain...)
	}
	l := many(g, 2, 3, func() api.Value { return g.value(levels - 1) })
	return pick(g, tuple(l...), cons("c1", l[0]), cons("c2", l...))
}

// loose is a pattern of no type, of up to so many levels.
func (g *generator) loose(levels int, next func() string) api.Expr {
	switch {
	case g.chance(3):
		return variable(next())
	case g.chance(6):
		return anything()
	case levels == 1 || g.chance(4):
		return pick(g, lit(num(1)), lit(num(0)), lit(boolean(1)), lit(text("1")), lit(long("1")), tup(), mk("c0"), mk("c1"))
	}
	l := many(g, 2, 3, func() api.Expr { return g.loose(levels-1, next) })
	return pick(g, tup(l...), mk("c1", l[0]), mk("c2", l...))
}

// bounds are some variables that are bound ahead.
func (g *generator) bounds() []cover.Bound {
	return many(g, 0, 3, func() cover.Bound { return bound(g.named()(), g.value(2)) })
}
