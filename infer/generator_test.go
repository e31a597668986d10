package infer_test

import (
	"math/rand/v2"
	"reflect"
	"strconv"
	"strings"

	"corollary/api"
	"corollary/parse"
)

// generator makes the same things each time; no two positions are the same.
type generator struct {
	*rand.Rand
	line int
	m    api.Module            // what is declared
	vars map[string][]api.Type // of the rule that is being made: variables, by the texts of their types
	own  map[string]string     // the text of each one's type
}

func newGenerator(seed uint64) *generator {
	m, _, e := parse.Parse("module m " + declared)
	if e != api.OK {
		panic(e)
	}
	return &generator{Rand: rand.New(rand.NewPCG(seed, 11)), m: m}
}

func pick[T any](g *generator, l ...T) T { return l[g.IntN(len(l))] }

// chance tells true once in n times.
func (g *generator) chance(n int) bool { return g.IntN(n) == 0 }

// many makes a list of some.
func many[T any](g *generator, least, most int, make func() T) []T {
	var l []T
	for range least + g.IntN(most-least+1) {
		l = append(l, make())
	}
	return l
}

// typed is a type without parameters, of up to so many levels.
func (g *generator) typed(levels int) api.Type {
	if levels == 1 || g.chance(3) {
		return typ(pick(g, "int", "int", "big", "text", "bool", "tuple", "pt", "dot", "line"))
	}
	switch name := pick(g, "tuple", "list", "pair", "box", "named", "ghost", "opt"); name {
	case "tuple":
		return typ(name, many(g, 2, 3, func() api.Type { return g.typed(levels - 1) })...)
	case "pair":
		return typ(name, g.typed(levels-1), g.typed(levels-1))
	default:
		return typ(name, g.typed(levels-1))
	}
}

// variable is one of a type, if there is one already or it is time for another one.
func (g *generator) variable(x api.Type) string {
	s := shown(x)
	var known []string
	for i := range len(g.own) {
		if name := varName(i); g.own[name] == s {
			known = append(known, name)
		}
	}
	if len(known) > 0 && !g.chance(4) {
		return pick(g, known...)
	}
	name := varName(len(g.own))
	g.own[name] = s
	return name
}

func varName(i int) string {
	return string(rune('A'+(i*7)%26)) + strings.TrimPrefix(strconv.Itoa(i/26), "0")
}

// pattern is one of a type.
func (g *generator) pattern(x api.Type, levels int) api.Expr {
	switch {
	case g.chance(5):
		return api.Expr{Kind: api.Any}
	case g.chance(2) || levels == 1:
		return variable(g.variable(x))
	}
	return g.built(x, levels, g.pattern)
}

// expr is an expression of a type.
func (g *generator) expr(x api.Type, levels int) api.Expr {
	if levels == 1 {
		if g.chance(2) {
			return g.built(x, 1, g.expr)
		}
		return variable(g.variable(x))
	}
	switch g.IntN(10) {
	case 0, 1:
		return variable(g.variable(x))
	case 2:
		return api.Expr{Kind: api.If, Args: []api.Expr{g.expr(typ("bool"), levels-1), g.expr(x, levels-1), g.expr(x, levels-1)}}
	case 3, 4:
		return g.field(x, levels)
	case 5, 6, 7:
		return g.computed(x, levels)
	}
	return g.built(x, levels, g.expr)
}

// built is a literal, a tuple or a constructor of a type. Where there may be no more levels, it is something small.
func (g *generator) built(x api.Type, levels int, part func(x api.Type, levels int) api.Expr) api.Expr {
	switch x.Name {
	case "bool":
		return api.Expr{Kind: api.Lit, Value: api.Value{Kind: api.Bool, N: g.Int64N(2)}}
	case "int":
		return lit(pick[int64](g, 0, 1, -2, 3, 1<<62))
	case "big":
		return api.Expr{Kind: api.Lit, Value: api.Value{Kind: api.Big, S: pick(g, "0", "7", "-3", strings.Repeat("9", 150))}}
	case "text":
		return api.Expr{Kind: api.Lit, Value: api.Value{Kind: api.Text, S: pick(g, "", "a", "int", "X")}}
	}
	if levels <= -4 {
		return variable(g.variable(x))
	}
	if x.Name == "tuple" {
		var l []api.Expr
		for _, arg := range x.Args {
			l = append(l, part(arg, max(levels-1, 1)))
		}
		return tup(l...)
	}
	for _, d := range g.m.Types {
		if d.Name != x.Name {
			continue
		}
		c := pick(g, d.Cons...)
		if levels == 1 {
			c = d.Cons[0]
		}
		result := construct(c.Name)
		for _, f := range c.Fields {
			result.Args = append(result.Args, part(putIn(f.Type, d.Params, x.Args), max(levels-1, 1)))
		}
		return result
	}
	panic("no type " + x.Name)
}

func (g *generator) computed(x api.Type, levels int) api.Expr {
	both := func(name string, y api.Type) api.Expr { return call(name, g.expr(y, levels-1), g.expr(y, levels-1)) }
	one := func(name string, y string) api.Expr { return call(name, g.expr(typ(y), levels-1)) }
	switch x.Name {
	case "int", "big":
		if g.chance(3) {
			return one("neg", x.Name)
		}
		if g.chance(3) && x.Name == "big" {
			return one("big", "int")
		}
		if g.chance(3) && x.Name == "int" {
			return pick(g, one("len", "text"), one("int", "big"))
		}
		return both(pick(g, "+", "-", "*", "/", "%"), x)
	case "text":
		return both("++", x)
	case "bool":
		if g.chance(3) {
			return pick(g, one("not", "bool"), both("and", x), both("or", x))
		}
		return both(pick(g, "==", "!=", "<", "<=", ">", ">="), g.typed(2))
	}
	return g.built(x, levels, g.expr)
}

// field is one of a type of a single constructor, if there is one that has a field of a type.
func (g *generator) field(x api.Type, levels int) api.Expr {
	var found []api.Expr
	for _, d := range g.m.Types {
		if len(d.Cons) != 1 {
			continue
		}
		for _, f := range d.Cons[0].Fields {
			args := map[string]api.Type{}
			if f.Name == "" || !matches(f.Type, x, args) {
				continue
			}
			of := typ(d.Name)
			for _, name := range d.Params {
				if _, known := args[name]; !known {
					args[name] = g.typed(1)
				}
				of.Args = append(of.Args, args[name])
			}
			found = append(found, api.Expr{Kind: api.Field, Name: f.Name, Args: []api.Expr{g.expr(of, levels-1)}})
		}
	}
	return pick(g, found...) // that of a box is always there
}

// matches tells whether a type with parameters is another one, and what they are then.
func matches(pattern, x api.Type, args map[string]api.Type) bool {
	if strings.HasPrefix(pattern.Name, "'") {
		known, there := args[pattern.Name]
		args[pattern.Name] = x
		return !there || shown(known) == shown(x)
	}
	if pattern.Name != x.Name || len(pattern.Args) != len(x.Args) {
		return false
	}
	for i := range x.Args {
		if !matches(pattern.Args[i], x.Args[i], args) {
			return false
		}
	}
	return true
}

func (g *generator) literal() api.Literal {
	switch g.IntN(6) {
	case 0:
		return api.Literal{Kind: api.Cond, Args: []api.Expr{g.expr(typ("bool"), 4)}}
	case 1, 2:
		x := g.typed(3)
		name := g.variable(x)
		return api.Literal{Kind: api.Bind, Rel: name, Args: []api.Expr{g.expr(x, 4)}}
	}
	d := pick(g, g.m.Rels...)
	l := api.Literal{Kind: pick(g, api.Atom, api.Atom, api.Not), Rel: d.Name}
	for _, f := range d.Fields {
		l.Args = append(l.Args, g.pattern(f.Type, 3))
	}
	return l
}

func (g *generator) rule() api.Rule {
	g.own = map[string]string{}
	r := api.Rule{Body: many(g, 0, 5, g.literal)}
	d := pick(g, g.m.Rels...)
	for d.Input {
		d = pick(g, g.m.Rels...)
	}
	r.Rel = d.Name
	for _, f := range d.Fields {
		agg, x := pick(g, "", "", "min", "max"), f.Type
		switch {
		case x.Name == "int" && g.chance(4):
			agg, x = "count", g.typed(2)
		case (x.Name == "int" || x.Name == "big") && g.chance(3):
			agg = "sum"
		}
		r.Args, r.Aggs = append(r.Args, g.expr(x, 3)), append(r.Aggs, agg)
	}
	return r
}

// module is one with some rules and nevers. In most of them all types can be unified.
func (g *generator) module(most int) api.Module {
	m := copied(g.m)
	for range 1 + g.IntN(3) {
		m.Rels = append(m.Rels, api.RelDef{Name: "r" + strconv.Itoa(len(m.Rels)), Input: g.chance(2), Fields: many(g, 1, 3, func() api.FieldDef { return api.FieldDef{Type: g.typed(3)} })})
	}
	before := g.m
	g.m = m
	m.Rules = many(g, 0, most, g.rule)
	m.Nevers = many(g, 0, most, func() api.Never {
		g.own = map[string]string{}
		return api.Never{Name: "n", Body: many(g, 1, 5, g.literal)}
	})
	g.m = before
	g.renumber(reflect.ValueOf(&m).Elem())
	return m
}

// spoil changes some things in the rules and nevers of a module.
func (g *generator) spoil(m *api.Module, times int) {
	for range times {
		g.spoilOne(m)
	}
	g.renumber(reflect.ValueOf(m).Elem())
}

func (g *generator) spoilOne(m *api.Module) {
	var all []*api.Expr
	var bodies [][]api.Literal
	for i := range m.Rules {
		all = append(all, exprsIn(m.Rules[i].Args)...)
		bodies = append(bodies, m.Rules[i].Body)
	}
	for i := range m.Nevers {
		bodies = append(bodies, m.Nevers[i].Body)
	}
	for _, body := range bodies {
		for i := range body {
			all = append(all, exprsIn(body[i].Args)...)
		}
		if len(body) > 0 && g.chance(10) {
			i, k := g.IntN(len(body)), g.IntN(len(body))
			body[i], body[k] = body[k], body[i]
		}
	}
	if len(all) == 0 {
		return
	}
	x := pick(g, all...)
	switch {
	case g.chance(3):
		*x = copied(*pick(g, all...))
	case g.chance(4):
		*x = g.built(g.typed(2), 2, g.pattern)
	case x.Kind == api.Lit:
		*x = g.built(typ(pick(g, "int", "big", "text", "bool")), 1, nil)
	case x.Kind == api.Var:
		x.Name = pick(g, varName(g.IntN(4)), "Z9")
	case x.Kind == api.Call && len(x.Args) == 2:
		x.Name = pick(g, "+", "-", "++", "and", "==", "<")
	case x.Kind == api.Call:
		x.Name = pick(g, "neg", "not", "len", "big", "int")
	case x.Kind == api.Field:
		x.Name = pick(g, "x", "y", "v", "first", "n", "what", "head")
	case len(x.Args) > 1:
		x.Args[0], x.Args[1] = x.Args[1], x.Args[0]
	}
}

// exprsIn are all expressions, and those in them.
func exprsIn(l []api.Expr) []*api.Expr {
	var all []*api.Expr
	for i := range l {
		all = append(all, &l[i])
		all = append(all, exprsIn(l[i].Args)...)
	}
	return all
}

// renumber has each position in something be another one.
func (g *generator) renumber(x reflect.Value) {
	switch {
	case x.Type() == reflect.TypeFor[api.Pos]():
		g.line++
		x.Set(reflect.ValueOf(api.Pos{Line: g.line, Col: g.IntN(100)}))
	case x.Kind() == reflect.Slice:
		for i := range x.Len() {
			g.renumber(x.Index(i))
		}
	case x.Kind() == reflect.Struct:
		for i := range x.NumField() {
			g.renumber(x.Field(i))
		}
	}
}

// accepted makes modules that have types.
func (g *generator) accepted(most int) api.Module {
	for {
		m := g.module(most)
		if _, first := readAll(m); first.e == api.OK {
			return m
		}
	}
}
