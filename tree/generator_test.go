package tree_test

import (
	"math/rand/v2"
	"strings"

	"corollary/api"
	"corollary/value"
)

// generator makes the same things each time.
type generator struct{ *rand.Rand }

func newGenerator(seed uint64) generator { return generator{rand.New(rand.NewPCG(seed, 6))} }

func pick[T any](g generator, l ...T) T { return l[g.IntN(len(l))] }

// chance tells true once in n times.
func (g generator) chance(n int) bool { return g.IntN(n) == 0 }

func (g generator) pos() api.Pos { return api.Pos{Line: g.IntN(5) - 1, Col: g.IntN(5) - 1} }

// many makes a list of up to so many, and the texts of all in it.
func many[T any](g generator, least, most int, make func() (T, string)) ([]T, []string) {
	var l []T
	var texts []string
	for range least + g.IntN(most-least+1) {
		x, s := make()
		l, texts = append(l, x), append(texts, s)
	}
	return l, texts
}

// inBrackets are texts in brackets; nothing, if there are none.
func inBrackets(texts []string) string {
	if len(texts) == 0 {
		return ""
	}
	return "(" + strings.Join(texts, ", ") + ")"
}

func (g generator) name() string { return pick(g, "a", "b", "nil", "c", "aB_1") }

func (g generator) longName() string { return pick(g, "a", "b", "nil", "c", "a.b", "b.a", "a.nil") }

func (g generator) variable() string { return pick(g, "X", "Y", "A", "X1") }

func (g generator) value() api.Value {
	return pick(g, api.Value{Kind: api.Bool}, api.Value{Kind: api.Bool, N: 1}, api.Value{Kind: api.Int, N: 1}, api.Value{Kind: api.Int, N: -1}, api.Value{Kind: api.Big, S: "1"}, api.Value{Kind: api.Big, S: "-1"}, api.Value{Kind: api.Text}, api.Value{Kind: api.Text, S: "X"}, api.Value{Kind: api.Text, S: "\", \""}, api.Value{Kind: api.Text, S: "1"}, api.Value{Kind: api.Text, S: "\n"})
}

// typ makes a type, and its text.
func (g generator) typ(depth int) (api.Type, string) {
	part := func() (api.Type, string) { return g.typ(depth - 1) }
	switch {
	case depth == 1 || g.chance(3):
		s := pick(g, "bool", "int", "big", "text", "'a", "'b", "a", "b.a")
		return api.Type{Name: s}, s
	case g.chance(4):
		return api.Type{Name: "tuple"}, "()"
	case g.chance(2):
		l, texts := many(g, 2, 3, part)
		return api.Type{Name: "tuple", Args: l}, inBrackets(texts)
	}
	s := g.longName()
	l, texts := many(g, 0, 2, part)
	return api.Type{Name: s, Args: l}, s + inBrackets(texts)
}

// pattern makes a pattern, and its text.
func (g generator) pattern(depth int) (api.Expr, string) {
	if g.chance(4) {
		return api.Expr{Kind: api.Any, Pos: g.pos()}, "_"
	}
	return g.either(depth, func() (api.Expr, string) { return g.pattern(depth - 1) })
}

// expr makes an expression, and its text.
func (g generator) expr(depth int) (api.Expr, string) {
	part := func() (api.Expr, string) { return g.expr(depth - 1) }
	if depth == 1 || g.chance(3) {
		return g.either(depth, part)
	}
	a, first := part()
	b, second := part()
	c, third := part()
	switch g.IntN(5) {
	case 0:
		s := pick(g, "+", "-", "*", "/", "%", "++", "==", "!=", "<", "<=", ">", ">=", "and", "or")
		return api.Expr{Kind: api.Call, Pos: g.pos(), Name: s, Args: []api.Expr{a, b}}, "(" + first + " " + s + " " + second + ")"
	case 1:
		return api.Expr{Kind: api.Call, Pos: g.pos(), Name: "not", Args: []api.Expr{a}}, "(not " + first + ")"
	case 2:
		s := pick(g, "neg", "len", "big", "int")
		return api.Expr{Kind: api.Call, Pos: g.pos(), Name: s, Args: []api.Expr{a}}, s + "(" + first + ")"
	case 3:
		return api.Expr{Kind: api.If, Pos: g.pos(), Args: []api.Expr{a, b, c}}, "(if " + first + " then " + second + " else " + third + ")"
	}
	s := g.name()
	if a.Kind == api.Lit || a.Kind == api.Make || a.Kind == api.Call && strings.HasPrefix(first, a.Name) {
		first = "(" + first + ")"
	}
	return api.Expr{Kind: api.Field, Pos: g.pos(), Name: s, Args: []api.Expr{a}}, first + "." + s
}

// either makes what may be an expression or a pattern, and its text.
func (g generator) either(depth int, part func() (api.Expr, string)) (api.Expr, string) {
	switch {
	case g.chance(4):
		v := g.value()
		return api.Expr{Kind: api.Lit, Pos: g.pos(), Value: v}, value.Show(v)
	case g.chance(3):
		s := g.variable()
		return api.Expr{Kind: api.Var, Pos: g.pos(), Name: s}, s
	case g.chance(6):
		return api.Expr{Kind: api.Tup, Pos: g.pos()}, "()"
	case depth == 1 || g.chance(5):
		s := g.longName()
		return api.Expr{Kind: api.Make, Pos: g.pos(), Name: s}, s
	case g.chance(2):
		l, texts := many(g, 2, 3, part)
		return api.Expr{Kind: api.Tup, Pos: g.pos(), Args: l}, inBrackets(texts)
	}
	s := g.longName()
	l, texts := many(g, 0, 3, part)
	return api.Expr{Kind: api.Make, Pos: g.pos(), Name: s, Args: l}, s + inBrackets(texts)
}

func (g generator) literal() (api.Literal, string) {
	switch g.IntN(4) {
	case 0, 1:
		s := g.longName()
		l, texts := many(g, 0, 2, func() (api.Expr, string) { return g.pattern(2) })
		x := api.Literal{Kind: api.Atom, Pos: g.pos(), Rel: s, Args: l}
		s += "(" + strings.Join(texts, ", ") + ")"
		if g.chance(2) {
			x.Kind = api.Not
			return x, "not " + s
		}
		return x, s
	case 2:
		e, s := g.expr(3)
		if e.Kind == api.Make {
			s = "(" + s + ")"
		}
		return api.Literal{Kind: api.Cond, Pos: g.pos(), Args: []api.Expr{e}}, s
	}
	name := g.variable()
	e, s := g.expr(2)
	return api.Literal{Kind: api.Bind, Pos: g.pos(), Rel: name, Args: []api.Expr{e}}, name + " = " + s
}

func (g generator) typeDef() (api.TypeDef, string) {
	d := api.TypeDef{Pos: g.pos(), Pub: g.chance(2), Name: g.name()}
	var params, conses []string
	d.Params, params = many(g, 0, 2, func() (string, string) {
		s := pick(g, "'a", "'b")
		return s, s
	})
	d.Cons, conses = many(g, 1, 3, func() (api.ConsDef, string) {
		s := g.name()
		l, texts := many(g, 0, 2, func() (api.FieldDef, string) { return g.field(true) })
		return api.ConsDef{Name: s, Fields: l}, s + inBrackets(texts)
	})
	return d, pub(d.Pub) + "type " + d.Name + inBrackets(params) + " = " + strings.Join(conses, " | ")
}

func (g generator) field(mayHaveNone bool) (api.FieldDef, string) {
	x, s := g.typ(3)
	if mayHaveNone && g.chance(2) {
		return api.FieldDef{Type: x}, s
	}
	name := g.name()
	return api.FieldDef{Name: name, Type: x}, name + ": " + s
}

func pub(is bool) string { return map[bool]string{true: "pub "}[is] }

func (g generator) relDef() (api.RelDef, string) {
	d := api.RelDef{Pos: g.pos(), Pub: g.chance(2), Input: g.chance(2), Name: g.name()}
	var texts []string
	d.Fields, texts = many(g, 0, 3, func() (api.FieldDef, string) { return g.field(false) })
	return d, pub(d.Pub) + map[bool]string{true: "input ", false: "rel "}[d.Input] + d.Name + "(" + strings.Join(texts, ", ") + ")"
}

func (g generator) rule() (api.Rule, string) {
	r := api.Rule{Pos: g.pos(), Rel: g.longName()}
	var texts, body []string
	r.Args, texts = many(g, 0, 3, func() (api.Expr, string) {
		e, s := g.expr(2)
		aggregate := pick(g, "", "", "count", "sum", "min", "max")
		r.Aggs = append(r.Aggs, aggregate)
		if aggregate != "" {
			s = aggregate + "(" + s + ")"
		}
		return e, s
	})
	r.Body, body = many(g, 0, 3, g.literal)
	s := r.Rel + "(" + strings.Join(texts, ", ") + ")"
	if len(body) > 0 {
		s += " :- " + strings.Join(body, ", ")
	}
	return r, s + "."
}

func (g generator) never() (api.Never, string) {
	n := api.Never{Pos: g.pos(), Name: g.name()}
	var body []string
	n.Body, body = many(g, 1, 3, g.literal)
	return n, "never " + n.Name + " :- " + strings.Join(body, ", ") + "."
}

// module makes a module of up to so many parts of each kind, and the lines of its text.
func (g generator) module(most int) (api.Module, []string) {
	m := api.Module{Name: g.name()}
	lines := []string{"module " + m.Name}
	add := func(more []string) { lines = append(lines, more...) }
	var l []string
	m.Imports, l = many(g, 0, most, func() (api.Import, string) {
		s := g.name()
		return api.Import{Pos: g.pos(), Name: s}, "import " + s
	})
	add(l)
	m.Types, l = many(g, 0, most, g.typeDef)
	add(l)
	m.Rels, l = many(g, 0, most, g.relDef)
	add(l)
	m.Rules, l = many(g, 0, most, g.rule)
	add(l)
	m.Nevers, l = many(g, 0, most, g.never)
	add(l)
	return m, lines
}

// roughExpr makes an expression that is right, or nearly.
func (g generator) roughExpr(depth int) api.Expr {
	e, _ := g.expr(depth)
	if g.chance(3) {
		e, _ = g.pattern(depth)
	}
	g.spoil(&e, 12)
	return e
}

// spoil changes an expression, and what is within it, once in n places.
func (g generator) spoil(e *api.Expr, n int) {
	for i := range e.Args {
		g.spoil(&e.Args[i], n)
	}
	if !g.chance(n) {
		return
	}
	switch g.IntN(5) {
	case 0:
		e.Kind = uint8(g.IntN(10))
	case 1:
		e.Name = pick(g, "", "X", "x", "a.b", "a.b.c", "+", "not", "neg", "count", "_", "a.not", "-")
	case 2:
		e.Value = pick(g, g.value(), api.Value{}, api.Value{Kind: api.Tuple}, api.Value{Kind: api.Bool, N: 2}, api.Value{L: []api.Value{}}, api.Value{Kind: api.Big, S: "01"})
	case 3:
		more, _ := g.pattern(1)
		e.Args = append(e.Args, more)
	case 4:
		e.Args = e.Args[:g.IntN(len(e.Args)+1)]
	}
}
