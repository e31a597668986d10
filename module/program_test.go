package module_test

import (
	"reflect"
	"slices"
	"strings"
	"testing"

	"corollary/api"
)

// TestP8_1OneModule has one with each place in which a name is declared or used.
func TestP8_1OneModule(t *testing.T) {
	checkProgram(t, "module m", "module m")
	checkProgram(t, "module m rel m__p() m.p().", "module m rel p() p().")
	checkProgram(t, `module graph
		pub type graph__list('a) = graph__nil | graph__cons(head: 'a, tail: graph.list('a))
		type graph__pair('a, 'b) = graph__pair(first: 'a, 'b) | graph__of(graph.list((graph.pair(int, 'b), 'a, ())), big, text, bool)
		pub input graph__edge(from: int, to: int)
		rel graph__deg(node: int, n: graph.list(graph.pair(int, (text, graph.list(int)))))
		graph.edge(X, graph.nil) :- graph.edge(X, Y), not graph.deg(graph.cons(Y, _), (graph.nil, 1)), X + len("nil") > -3, Y = graph.of(X.head, graph.nil).
		graph.deg(count(graph.cons(X, graph.nil)), sum(if X == graph.nil then graph.cons(1, Y).tail else neg(X)), min(X), max((X, graph.nil))).
		never graph__loop :- graph.edge(graph.cons(graph.nil, X), _), not graph.edge(_, graph.nil), (graph.nil) == X, Y = graph.nil.`,
		`module graph
		pub type list('a) = nil | cons(head: 'a, tail: list('a))
		type pair('a, 'b) = pair(first: 'a, 'b) | of(list((pair(int, 'b), 'a, ())), big, text, bool)
		pub input edge(from: int, to: int)
		rel deg(node: int, n: list(pair(int, (text, list(int)))))
		edge(X, nil) :- edge(X, Y), not deg(cons(Y, _), (nil, 1)), X + len("nil") > -3, Y = of(X.head, nil).
		deg(count(cons(X, nil)), sum(if X == nil then cons(1, Y).tail else neg(X)), min(X), max((X, nil))).
		never loop :- edge(cons(nil, X), _), not edge(_, nil), (nil) == X, Y = nil.`)
}

// TestP8_1SeveralModules has three, with names of their own and of others, and all parts in their order.
func TestP8_1SeveralModules(t *testing.T) {
	checkProgram(t, `module b
		type b__t = b__k(a.t, c.t, b.t) | b__l
		pub type b__s = b__n(a.t)
		pub type a__t = a__k | a__l(c.t)
		pub type c__t = c__k | c__m(c.t)
		type c__a = c__n
		rel b__p(x: a.t, y: (c.t, b.t))
		pub input b__q(x: c.t)
		pub rel a__p(x: c.t, y: int)
		rel a__r(x: a.t)
		pub input c__p(x: c.t, y: c.a)
		b.p(a.k, (c.m(b.l), b.k(b.l, c.k, a.l(a.k)))) :- a.p(c.k, _), c.p(X, a.k), b.p(X, X), not a.p(b.l, X).
		b.p(X, Y) :- b.p(X, Y), X == c.m(c.k), Y = a.k.
		a.r(a.l(c.k)) :- c.p(a.k, c.k).
		a.p(X, Y) :- a.p(X, Y).
		c.p(c.m(c.n), X) :- c.p(X, _).
		never b__p :- a.p(X, X).
		never b__n :- c.p(X, b.l).
		never a__p :- a.p(X, X), c.p(X, X).
		never c__n :- c.p(c.k, c.n).
		never c__p :- X == c.k.`,
		`module b import a import c
		type t = k(a.t, c.t, t) | l pub type s = n(a.t)
		rel p(x: a.t, y: (c.t, t)) pub input q(x: c.t)
		p(a.k, (c.m(l), k(l, c.k, a.l(a.k)))) :- a.p(c.k, _), c.p(X, a.k), p(X, X), not a.p(l, X).
		p(X, Y) :- b.p(X, Y), X == c.m(c.k), Y = a.k.
		never p :- a.p(X, X).
		never n :- c.p(X, b.l).`,
		`module a import c
		pub type t = k | l(c.t)
		pub rel p(x: c.t, y: int) rel r(x: t)
		r(l(c.k)) :- c.p(k, c.k).
		p(X, Y) :- a.p(X, Y).
		never p :- p(X, X), c.p(X, X).`,
		`module c
		pub type t = k | m(t) type a = n
		pub input p(x: t, y: a)
		p(m(n), X) :- p(X, _).
		never n :- p(k, n).
		never p :- X == k.`)
}

// TestP8_1NameAndImports has programs whose first module imports, is imported, or has nothing to do with the others.
func TestP8_1NameAndImports(t *testing.T) {
	first, second, third := "module a import b import c rel p()", "module b import c rel p()", "module c rel p()"
	checkProgram(t, "module a rel a__p() rel b__p() rel c__p()", first, second, third)
	checkProgram(t, "module a rel a__p() rel c__p() rel b__p()", first, third, second)
	checkProgram(t, "module b rel b__p() rel a__p() rel c__p()", second, first, third)
	checkProgram(t, "module c rel c__p() rel b__p() rel a__p()", third, second, first)
	checkProgram(t, "module a rel b__p()", "module a", "module b rel p()")
	checkProgram(t, "module a rel a__p()", "module a rel p()", "module b")
}

// TestP8_1EverythingElse has what looks like names that are declared, but is not.
func TestP8_1EverythingElse(t *testing.T) {
	checkProgram(t, `module p
		pub type p__p('p, 'b) = p__p(p: 'p, b: 'b, p_b: int, 'p) | p__b(p: p.p('b, 'p))
		pub rel p__p(p: int, b: bool) pub rel p__b(p: p.p(int, text))
		type b__p('p) = b__p(p: 'p) rel b__p(b: int)
		p.p(P, "p") :- p.p(P, "p.p"), P = P.p.b, P.p == "b.p", B = (P, "p", ()), B.p > neg(P), not P.b and len("p") == 1 or int(P) < 2b.
		p.p(count(P.p), min(P)). p.p(sum(P), max("p")).
		never p__p :- P = "p", P == P.p.
		never b__p :- true.`,
		`module p import b
		pub type p('p, 'b) = p(p: 'p, b: 'b, p_b: int, 'p) | b(p: p('b, 'p))
		pub rel p(p: int, b: bool) pub rel b(p: p(int, text))
		p(P, "p") :- p(P, "p.p"), P = P.p.b, P.p == "b.p", B = (P, "p", ()), B.p > neg(P), not P.b and len("p") == 1 or int(P) < 2b.
		p(count(P.p), min(P)). p(sum(P), max("p")).
		never p :- P = "p", P == P.p.`,
		"module b type p('p) = p(p: 'p) rel p(b: int) never p :- true.")
}

// TestP8_1EachAggregate has each one at each place of a head.
func TestP8_1EachAggregate(t *testing.T) {
	l, _ := modulesOf(t, "module m type t = c rel p(x: t, y: t, z: t) p(c, c, c) :- p(c, c, c).")
	for _, first := range []string{"", "count", "sum", "min", "max"} {
		for _, second := range []string{"", "count", "sum", "min", "max"} {
			l[0].Rules[0].Aggs = []string{first, "", second}
			m := flat(t, l...)
			if !slices.Equal(m.Rules[0].Aggs, []string{first, "", second}) {
				t.Errorf("%q", m.Rules[0].Aggs)
			}
		}
	}
}

// nestedExpr is an expression, and a pattern, of a depth with an innermost one, within constructors and tuples.
func nestedExpr(depth int, name string, innermost api.Expr) api.Expr {
	for n := range depth - 1 {
		if n%2 == 0 {
			innermost = api.Expr{Kind: api.Make, Name: name, Args: []api.Expr{innermost}}
		} else {
			innermost = api.Expr{Kind: api.Tup, Args: []api.Expr{{Kind: api.Lit, Value: api.Value{Kind: api.Int}}, innermost}}
		}
	}
	return innermost
}

func nestedType(depth int, name string, innermost api.Type) api.Type {
	for n := range depth - 1 {
		if n%2 == 0 {
			innermost = api.Type{Name: name, Args: []api.Type{innermost}}
		} else {
			innermost = api.Type{Name: "tuple", Args: []api.Type{{Name: "int"}, innermost}}
		}
	}
	return innermost
}

// deepModule is one, m, whose types, patterns and expressions have a depth. What it uses is named so.
func deepModule(depth int, typ, cons, rel string) api.Module {
	fields := func() []api.FieldDef {
		return []api.FieldDef{{Name: "f", Type: nestedType(depth, typ, api.Type{Name: typ})}, {Name: "g", Type: nestedType(depth, typ, api.Type{Name: "text"})}}
	}
	deep := func() []api.Expr { return []api.Expr{nestedExpr(depth, cons, api.Expr{Kind: api.Make, Name: cons})} }
	body := func() []api.Literal {
		return []api.Literal{{Kind: api.Atom, Rel: rel, Args: deep()}, {Kind: api.Not, Rel: rel, Args: deep()}, {Kind: api.Cond, Args: deep()}, {Kind: api.Bind, Rel: "X", Args: deep()}}
	}
	return api.Module{
		Name:   "m",
		Types:  []api.TypeDef{{Name: "t", Cons: []api.ConsDef{{Name: "c", Fields: fields()}}}},
		Rels:   []api.RelDef{{Name: "r", Fields: fields()}},
		Rules:  []api.Rule{{Rel: rel, Args: deep(), Aggs: []string{""}, Body: body()}},
		Nevers: []api.Never{{Name: "n", Body: body()}},
	}
}

// TestP8_1Deep has names at each depth, down to the one that is allowed.
func TestP8_1Deep(t *testing.T) {
	for depth := 1; depth <= 64; depth++ {
		want := deepModule(depth, "m.t", "m.c", "m.r")
		want.Types[0].Name, want.Types[0].Cons[0].Name, want.Rels[0].Name, want.Nevers[0].Name = "m.t", "m.c", "m.r", "m.n"
		checkModules(t, "deep", []api.Module{deepModule(depth, "t", "c", "r")}, want)
		checkModules(t, "deep and qualified", []api.Module{deepModule(depth, "m.t", "m.c", "m.r")}, want)
	}
	checkRefused(t, "too deep", []api.Module{deepModule(65, "t", "c", "r")}, whereIn("m", api.Pos{}), api.ErrDeep)
}

// TestP8_1EachKindOfExpression has a constructor at each place within each kind of expression.
func TestP8_1EachKindOfExpression(t *testing.T) {
	texts := []string{"c", "(c, 1)", "(1, 2, c)", "c(c)", "c(X, c)", "not c", "neg(c)", "len(c)", "big(c)", "int(c)", "(c).f", "(c, c).f.g", "if c then X else Y", "if X then c else Y", "if X then Y else c", "not not (c, neg(c(c)))"}
	for _, s := range strings.Fields("or and == != < <= > >= ++ + - * / %") {
		texts = append(texts, "c "+s+" X", "X "+s+" c", "(1, c) "+s+" (c).f")
	}
	for _, s := range texts {
		frame := "module m type D = C rel R(x: int) m.r(X, E) :- X = E, (E) == 1, (E). never N :- X = E, (E)."
		names := strings.NewReplacer("D", "t", "C", "c", "R", "r", "N", "n", "E", s)
		want := strings.NewReplacer("D", "m__t", "C", "m__c", "R", "m__r", "N", "m__n", "E", strings.ReplaceAll(s, "c", "m.c"))
		checkProgram(t, want.Replace(frame), names.Replace(frame))
	}
}

// TestP8_1Positions has each position as it was.
func TestP8_1Positions(t *testing.T) {
	g := newGenerator(1)
	for range 300 {
		l := g.modules(5, 3).given
		m := flat(t, l...)
		var want []api.Pos
		for _, kind := range []func(m api.Module) any{func(m api.Module) any { return m.Types }, func(m api.Module) any { return m.Rels }, func(m api.Module) any { return m.Rules }, func(m api.Module) any { return m.Nevers }} {
			for _, one := range l {
				want = append(want, positionsIn(kind(one))...)
			}
		}
		if got := positionsIn(m); !slices.Equal(got, want) {
			t.Errorf("%v, not %v", got, want)
		}
	}
}

// positionsIn are all positions in something, in their order.
func positionsIn(x any) []api.Pos {
	var l []api.Pos
	var visit func(x reflect.Value)
	visit = func(x reflect.Value) {
		switch p, is := x.Interface().(api.Pos); {
		case is:
			l = append(l, p)
		case x.Kind() == reflect.Struct:
			for i := range x.NumField() {
				visit(x.Field(i))
			}
		case x.Kind() == reflect.Slice:
			for i := range x.Len() {
				visit(x.Index(i))
			}
		}
	}
	visit(reflect.ValueOf(x))
	return l
}
