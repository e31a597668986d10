package unify_test

import (
	"math/rand/v2"
	"strings"

	"corollary/api"
)

// generator makes the same things each time.
type generator struct{ *rand.Rand }

func newGenerator(seed uint64) *generator {
	return &generator{rand.New(rand.NewPCG(seed, 9))}
}

func pick[T any](g *generator, l ...T) T { return l[g.IntN(len(l))] }

// chance tells true once in n times.
func (g *generator) chance(n int) bool { return g.IntN(n) == 0 }

// many makes a list of some.
func many[T any](g *generator, least, most int, make func() T) []T {
	var l []T
	for range least + g.IntN(most-least+1) {
		l = append(l, make())
	}
	return l
}

func allVars() []string { return strings.Fields("'a 'b 'c 'd 'e 'f 'A ''") }

func numberedVars() []string { return strings.Fields("'1 '2 '3 '4 '7 '10 '11 '01 '0 '-1") }

// typed is a type of up to so many levels, of some variables.
func (g *generator) typed(levels int, vars []string) api.Type {
	if levels == 1 || g.chance(3) {
		if g.chance(3) {
			return typ(pick(g, "int", "text", "tuple"))
		}
		return typ(pick(g, vars...))
	}
	part := func() api.Type { return g.typed(levels-1, vars) }
	switch g.IntN(4) {
	case 0:
		return typ("list", part())
	case 1:
		return typ("pair", part(), part())
	case 2:
		return typ("tuple", many(g, 0, 4, part)...)
	}
	return typ("pair", part(), typ(pick(g, vars...)))
}

// pair is two types.
type pair struct{ a, b api.Type }

// pairs are some, few of which are not to be unified with those before.
func (g *generator) pairs(least, most int, vars []string) []pair {
	return many(g, least, most, func() pair {
		a, b := g.typed(1+g.IntN(4), vars), g.typed(1+g.IntN(4), vars)
		switch g.IntN(6) {
		case 0:
			return pair{a, b}
		case 1:
			return pair{typ(pick(g, vars...)), b}
		case 2:
			return pair{typ(pick(g, vars...)), typ(pick(g, vars...))}
		}
		return pair{a, g.changed(a, vars)}
	})
}

// changed is a type with other ones in the place of some parts, mostly variables in that of others or others in that of variables.
func (g *generator) changed(x api.Type, vars []string) api.Type {
	switch {
	case g.chance(6):
		return typ(pick(g, vars...))
	case strings.HasPrefix(x.Name, "'") && g.chance(3):
		return g.typed(2, vars)
	case g.chance(40):
		return g.typed(2, vars)
	}
	result := typ(x.Name)
	for _, arg := range x.Args {
		result.Args = append(result.Args, g.changed(arg, vars))
	}
	return result
}
