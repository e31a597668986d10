package decl_test

import (
	"math/rand/v2"
	"reflect"
	"slices"
	"strconv"
	"strings"

	"corollary/api"
)

// generator makes the same things each time; no two positions are the same.
type generator struct {
	*rand.Rand
	line int
}

func newGenerator(seed uint64) *generator {
	return &generator{Rand: rand.New(rand.NewPCG(seed, 10))}
}

func pick[T any](g *generator, l ...T) T { return l[g.IntN(len(l))] }

// chance tells true once in n times.
func (g *generator) chance(n int) bool { return g.IntN(n) == 0 }

// many makes a list of some.
func many[T any](g *generator, least, most int, make func() T) []T {
	var l []T
	for range least + g.IntN(most-least+1) {
		l = append(l, make())
	}
	return l
}

func (g *generator) pos() api.Pos {
	g.line++
	return api.Pos{Line: g.line, Col: g.IntN(100)}
}

// some are the first ones of names in another order.
func (g *generator) some(least, most int, names string) []string {
	l := strings.Fields(names)
	g.Shuffle(len(l), func(i, k int) { l[i], l[k] = l[k], l[i] })
	return l[:least+g.IntN(most-least+1)]
}

// module is one in which nothing is wrong, except that there may be types without values.
func (g *generator) module() api.Module {
	m := api.Module{Name: "m"}
	constructors := 0
	for _, name := range g.some(0, 5, "t u v w x t.u") {
		d := api.TypeDef{Pos: g.pos(), Pub: g.chance(2), Name: name, Params: g.some(0, 3, "'a 'b 'c")}
		for range 1 + g.IntN(3) {
			d.Cons = append(d.Cons, api.ConsDef{Name: "c" + strconv.Itoa(constructors)})
			constructors++
		}
		m.Types = append(m.Types, d)
	}
	for i, d := range m.Types {
		for k := range d.Cons {
			m.Types[i].Cons[k].Fields = g.fields(m, d.Params, 2)
		}
	}
	for _, name := range g.some(0, 4, "p q r s t") {
		m.Rels = append(m.Rels, api.RelDef{Pos: g.pos(), Pub: g.chance(2), Input: g.chance(3), Name: name, Fields: g.fields(m, g.some(0, 2, "'a 'b 'x"), 3)})
	}
	for _, d := range m.Rels {
		if d.Input || g.chance(3) {
			continue
		}
		r := api.Rule{Pos: g.pos(), Rel: d.Name, Args: g.exprs(m, len(d.Fields), 3), Body: g.body(m)}
		for range r.Args {
			r.Aggs = append(r.Aggs, pick(g, "", "", "sum", "nope"))
		}
		m.Rules = append(m.Rules, r)
	}
	m.Nevers = many(g, 0, 2, func() api.Never { return api.Never{Pos: g.pos(), Name: "n", Body: g.body(m)} })
	return m
}

// fields are up to so many, of types with some parameters.
func (g *generator) fields(m api.Module, params []string, most int) []api.FieldDef {
	names := g.some(3, 3, "x y z")
	var l []api.FieldDef
	for i := range g.IntN(most + 1) {
		l = append(l, api.FieldDef{Name: pick(g, "", names[i]), Type: g.typed(m, params, 3)})
	}
	return l
}

// typed is a type of a module up to so many levels, with some parameters, that does not grow.
func (g *generator) typed(m api.Module, params []string, levels int) api.Type {
	plain := []api.Type{typ("int"), typ("text"), typ("bool"), typ("big"), typ("tuple")}
	for _, name := range params {
		plain = append(plain, typ(name), typ(name))
	}
	if levels == 1 || g.chance(3) || len(m.Types) == 0 && g.chance(2) {
		return pick(g, plain...)
	}
	if len(m.Types) == 0 || g.chance(4) {
		return typ("tuple", many(g, 2, 3, func() api.Type { return g.typed(m, params, levels-1) })...)
	}
	d := pick(g, m.Types...)
	x := typ(d.Name)
	for range d.Params {
		if len(params) > 0 && g.chance(2) {
			x.Args = append(x.Args, typ(pick(g, params...)))
		} else {
			x.Args = append(x.Args, g.typed(m, nil, levels-1))
		}
	}
	return x
}

func (g *generator) body(m api.Module) []api.Literal {
	return many(g, 0, 3, func() api.Literal {
		if len(m.Rels) == 0 || g.chance(3) {
			return api.Literal{Kind: pick(g, api.Cond, api.Bind, 0, 9), Pos: g.pos(), Rel: pick(g, "", "X", "nope"), Args: g.exprs(m, g.IntN(2), 3)}
		}
		d := pick(g, m.Rels...)
		return api.Literal{Kind: pick(g, api.Atom, api.Not), Pos: g.pos(), Rel: d.Name, Args: g.exprs(m, len(d.Fields), 3)}
	})
}

// exprs are so many expressions of up to so many levels.
func (g *generator) exprs(m api.Module, n, levels int) []api.Expr {
	return many(g, n, n, func() api.Expr { return g.expr(m, levels) })
}

func (g *generator) expr(m api.Module, levels int) api.Expr {
	x := api.Expr{Kind: pick(g, api.Lit, api.Var, api.Any, api.Tup, api.Call, api.Field, api.If, 0, 9), Pos: g.pos(), Name: pick(g, "", "X", "nope", "c0")}
	if levels == 1 {
		return x
	}
	if len(m.Types) > 0 && g.chance(2) {
		c := pick(g, pick(g, m.Types...).Cons...)
		return api.Expr{Kind: api.Make, Pos: x.Pos, Name: c.Name, Args: g.exprs(m, len(c.Fields), levels-1)}
	}
	x.Args = g.exprs(m, g.IntN(3), levels-1)
	return x
}

// spoil changes some names, lists and numbers in a module.
func (g *generator) spoil(m *api.Module, times int) {
	for range times {
		g.spoilOne(m)
	}
	g.renumber(reflect.ValueOf(m).Elem())
}

func (g *generator) spoilOne(m *api.Module) {
	var places []reflect.Value
	eachPlace(reflect.ValueOf(m).Elem(), func(x reflect.Value) { places = append(places, x) })
	x := pick(g, places...)
	switch x.Kind() {
	case reflect.String:
		other := pick(g, places...)
		for other.Kind() != reflect.String {
			other = pick(g, places...)
		}
		x.SetString(pick(g, other.String(), other.String(), other.String(), "nope", "int", "tuple", "'a", "'z", ""))
	case reflect.Bool:
		x.SetBool(!x.Bool())
	case reflect.Uint8:
		x.SetUint(uint64(1 + g.IntN(8)))
	case reflect.Slice:
		g.spoilList(x, places)
	}
}

// spoilList adds one to a list, or takes one away.
func (g *generator) spoilList(x reflect.Value, places []reflect.Value) {
	n := x.Len()
	at := 0
	if n > 0 {
		at = g.IntN(n)
	}
	var l []reflect.Value
	for i := range n {
		l = append(l, x.Index(i))
	}
	var donors []reflect.Value
	for _, other := range places {
		if other.Type() == x.Type() && other.Len() > 0 {
			donors = append(donors, other)
		}
	}
	if n > 0 && g.chance(2) || len(donors) == 0 {
		if n > 0 {
			l = slices.Delete(l, at, at+1)
		}
	} else {
		from := pick(g, donors...)
		l = slices.Insert(l, at, from.Index(g.IntN(from.Len())))
	}
	changed := reflect.MakeSlice(x.Type(), 0, len(l))
	for _, item := range l {
		changed = reflect.Append(changed, copyOf(item))
	}
	x.Set(changed)
}

// eachPlace visits all that may be spoiled.
func eachPlace(x reflect.Value, visit func(reflect.Value)) {
	switch x.Kind() {
	case reflect.String, reflect.Bool, reflect.Uint8:
		visit(x)
	case reflect.Slice:
		visit(x)
		for i := range x.Len() {
			eachPlace(x.Index(i), visit)
		}
	case reflect.Struct:
		if x.Type() == reflect.TypeFor[api.Value]() {
			return
		}
		for i := range x.NumField() {
			eachPlace(x.Field(i), visit)
		}
	}
}

// renumber has each position in something be another one.
func (g *generator) renumber(x reflect.Value) {
	switch {
	case x.Type() == reflect.TypeFor[api.Pos]():
		x.Set(reflect.ValueOf(g.pos()))
	case x.Kind() == reflect.Slice:
		for i := range x.Len() {
			g.renumber(x.Index(i))
		}
	case x.Kind() == reflect.Struct:
		for i := range x.NumField() {
			g.renumber(x.Field(i))
		}
	}
}

// accepted makes modules that have tables.
func (g *generator) accepted() api.Module {
	for {
		if m := g.module(); len(m.Types) > 0 {
			if _, e := firstWrong(m); e == api.OK {
				return m
			}
		}
	}
}

// valueOf is a value of a type up to so many levels, if one is found.
func (g *generator) valueOf(m api.Module, x api.Type, levels int) (api.Value, bool) {
	switch x.Name {
	case "bool":
		return boolean(int64(g.IntN(2))), true
	case "int":
		return num(int64(g.IntN(3))), true
	case "big":
		return long(pick(g, "0", "-1")), true
	case "text":
		return text(pick(g, "", "a", "c0")), true
	case "tuple":
		l, ok := g.valuesOf(m, x.Args, levels)
		return tuple(l...), ok
	}
	c := claims{m: m}
	d := c.typeOf(x.Name)
	if levels == 0 || d == nil {
		return api.Value{}, false
	}
	for _, k := range g.Perm(len(d.Cons)) {
		var fields []api.Type
		for _, f := range d.Cons[k].Fields {
			fields = append(fields, putIn(f.Type, d.Params, x.Args))
		}
		if l, ok := g.valuesOf(m, fields, levels-1); ok {
			return cons(d.Cons[k].Name, l...), true
		}
	}
	return api.Value{}, false
}

func (g *generator) valuesOf(m api.Module, l []api.Type, levels int) ([]api.Value, bool) {
	var values []api.Value
	for _, x := range l {
		v, ok := g.valueOf(m, x, levels)
		if !ok {
			return nil, false
		}
		values = append(values, v)
	}
	return values, true
}

// changed is a value in which something is another one.
func (g *generator) changed(m api.Module, v api.Value) api.Value {
	v = copied(v)
	if len(v.L) > 0 && !g.chance(3) {
		i := g.IntN(len(v.L))
		v.L[i] = g.changed(m, v.L[i])
		return v
	}
	switch g.IntN(5) {
	case 0:
		v.Kind = uint8(g.IntN(8))
	case 1:
		v.S = pick(g, "c0", "c1", "c2", "c3", "c4", "nope", "1")
	case 2:
		v.L = append(v.L, num(1))
	case 3:
		if len(v.L) > 0 {
			v.L = v.L[1:]
		}
	case 4:
		if other, ok := g.valueOf(m, g.typed(m, nil, 2), 4); ok {
			return other
		}
	}
	return v
}
