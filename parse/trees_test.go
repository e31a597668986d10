package parse_test

import (
	"math/rand/v2"
	"strings"

	"corollary/api"
)

// generator makes the same things each time.
type generator struct{ *rand.Rand }

func newGenerator(seed uint64) generator { return generator{rand.New(rand.NewPCG(seed, 7))} }

func pick[T any](g generator, l ...T) T { return l[g.IntN(len(l))] }

// chance tells true once in n times.
func (g generator) chance(n int) bool { return g.IntN(n) == 0 }

// many makes a list of some.
func many[T any](g generator, least, most int, make func() T) []T {
	var l []T
	for range least + g.IntN(most-least+1) {
		l = append(l, make())
	}
	return l
}

func (g generator) name() string {
	return pick(g, "a", "b", "nil", "c", "aB_1", "modules", "nots", "e2", "x41", strings.Repeat("n", 32))
}

func (g generator) longName() string {
	if g.chance(3) {
		return g.name() + "." + g.name()
	}
	return g.name()
}

func (g generator) variable() string {
	return pick(g, "X", "Y", "A", "X1", "Not", "B_", strings.Repeat("V", 32))
}

func (g generator) value() api.Value {
	switch g.IntN(4) {
	case 0:
		return api.Value{Kind: api.Bool, N: int64(g.IntN(2))}
	case 1:
		return api.Value{Kind: api.Int, N: pick(g, 0, 1, -1, 7, -12, 1<<63-1, -1<<63, int64(g.Uint64()))}
	case 2:
		return api.Value{Kind: api.Big, S: pick(g, "0", "1", "-1", "9223372036854775808", "-99999999999999999999", strings.Repeat("9", 200), "-"+strings.Repeat("1", 200))}
	}
	return api.Value{Kind: api.Text, S: pick(g, "", "a", "X", "(", ")", "true", "#", "\"\\\n\t", "a.b", "\x00\x7f\xff", "\u00e4", "if X", "'")}
}

// typ makes a type that is at most so deep.
func (g generator) typ(depth int) api.Type {
	part := func() api.Type { return g.typ(depth - 1) }
	switch {
	case depth == 1 || g.chance(3):
		return api.Type{Name: pick(g, "bool", "int", "big", "text", "'a", "'b", "'nil", "tuple", g.longName())}
	case g.chance(3):
		return api.Type{Name: "tuple", Args: many(g, 2, 4, part)}
	}
	return api.Type{Name: g.longName(), Args: many(g, 0, 3, part)}
}

func (g generator) pattern(depth int) api.Expr {
	if g.chance(4) {
		return api.Expr{Kind: api.Any}
	}
	return g.either(depth, func() api.Expr { return g.pattern(depth - 1) })
}

func (g generator) expr(depth int) api.Expr {
	part := func() api.Expr { return g.expr(depth - 1) }
	if depth == 1 || g.chance(5) {
		return g.either(depth, part)
	}
	switch g.IntN(7) {
	case 0:
		return api.Expr{Kind: api.Call, Name: "not", Args: []api.Expr{part()}}
	case 1:
		return api.Expr{Kind: api.Call, Name: pick(g, functions()...), Args: []api.Expr{part()}}
	case 2:
		return api.Expr{Kind: api.If, Args: []api.Expr{part(), part(), part()}}
	case 3:
		return api.Expr{Kind: api.Field, Name: g.name(), Args: []api.Expr{part()}}
	}
	return api.Expr{Kind: api.Call, Name: pick(g, binary()...), Args: []api.Expr{part(), part()}}
}

// either makes what may be an expression or a pattern.
func (g generator) either(depth int, part func() api.Expr) api.Expr {
	switch n := g.IntN(6); {
	case n < 2:
		return api.Expr{Kind: api.Lit, Value: g.value()}
	case n == 2:
		return api.Expr{Kind: api.Var, Name: g.variable()}
	case depth == 1:
		return pick(g, api.Expr{Kind: api.Tup}, api.Expr{Kind: api.Make, Name: g.longName()})
	case n == 3:
		return api.Expr{Kind: api.Tup, Args: many(g, 2, 4, part)}
	}
	return api.Expr{Kind: api.Make, Name: g.longName(), Args: many(g, 0, 3, part)}
}

func (g generator) literal() api.Literal {
	switch g.IntN(5) {
	case 0, 1:
		return api.Literal{Kind: api.Atom, Rel: g.longName(), Args: many(g, 0, 3, func() api.Expr { return g.pattern(3) })}
	case 2:
		return api.Literal{Kind: api.Not, Rel: g.longName(), Args: many(g, 0, 3, func() api.Expr { return g.pattern(3) })}
	case 3:
		return api.Literal{Kind: api.Cond, Args: []api.Expr{g.expr(4)}}
	}
	return api.Literal{Kind: api.Bind, Rel: g.variable(), Args: []api.Expr{g.expr(3)}}
}

func (g generator) typeDef() api.TypeDef {
	return api.TypeDef{
		Pub: g.chance(2), Name: g.name(),
		Params: many(g, 0, 2, func() string { return "'" + g.name() }),
		Cons: many(g, 1, 3, func() api.ConsDef {
			return api.ConsDef{Name: g.name(), Fields: many(g, 0, 2, func() api.FieldDef {
				return api.FieldDef{Name: pick(g, "", g.name()), Type: g.typ(3)}
			})}
		}),
	}
}

func (g generator) relDef() api.RelDef {
	return api.RelDef{
		Pub: g.chance(2), Input: g.chance(2), Name: g.name(),
		Fields: many(g, 0, 3, func() api.FieldDef { return api.FieldDef{Name: g.name(), Type: g.typ(3)} }),
	}
}

func (g generator) rule() api.Rule {
	r := api.Rule{Rel: g.longName(), Args: many(g, 0, 3, func() api.Expr { return g.expr(3) }), Body: many(g, 0, 3, g.literal)}
	for range r.Args {
		r.Aggs = append(r.Aggs, pick(g, "", "", "count", "sum", "min", "max"))
	}
	return r
}

func (g generator) never() api.Never {
	return api.Never{Name: g.name(), Body: many(g, 1, 3, g.literal)}
}

// module makes one of up to so many of each kind.
func (g generator) module(most int) api.Module {
	return api.Module{
		Name:    g.name(),
		Imports: many(g, 0, most, func() api.Import { return api.Import{Name: g.name()} }),
		Types:   many(g, 0, most, g.typeDef),
		Rels:    many(g, 0, most, g.relDef),
		Rules:   many(g, 0, most, g.rule),
		Nevers:  many(g, 0, most, g.never),
	}
}
