package tree_test

import (
	"slices"
	"testing"

	"corollary/api"
	"corollary/tree"
)

// limited is a kind of part: how many of it there may be, the error for one more, and a module with so many.
type limited struct {
	what  string
	least int
	most  int
	wrong api.Errno
	make  func(n int) api.Module
}

func limits() []limited {
	c, x := []api.ConsDef{consDef("c")}, variable("X")
	fields := func(n int) []api.FieldDef { return times(n, named("f", typ("int"))) }
	ofBody := func(l []api.Literal) api.Module { return ofRule(rule("p", nil, l...)) }
	return []limited{
		{"imports", 0, 8, api.ErrFull, func(n int) api.Module { return api.Module{Imports: times(n, api.Import{Name: "a"})} }},
		{"types", 0, 64, api.ErrFull, func(n int) api.Module { return api.Module{Types: times(n, api.TypeDef{Name: "t", Cons: c})} }},
		{"relations", 0, 64, api.ErrFull, func(n int) api.Module { return api.Module{Rels: times(n, api.RelDef{Name: "r"})} }},
		{"rules", 0, 256, api.ErrFull, func(n int) api.Module { return api.Module{Rules: times(n, rule("p", nil))} }},
		{"nevers", 0, 256, api.ErrFull, func(n int) api.Module { return api.Module{Nevers: times(n, never("n", atom("q")))} }},
		{"literals of a rule", 0, 12, api.ErrFull, func(n int) api.Module { return ofBody(times(n, atom("q"))) }},
		{"literals of a never", 1, 12, api.ErrFull, func(n int) api.Module { return api.Module{Nevers: []api.Never{never("n", times(n, atom("q"))...)}} }},
		{"parameters", 0, 8, api.ErrForm, func(n int) api.Module { return ofType(api.TypeDef{Name: "t", Params: times(n, "'a"), Cons: c}) }},
		{"constructors", 1, 16, api.ErrForm, func(n int) api.Module { return ofType(api.TypeDef{Name: "t", Cons: times(n, c[0])}) }},
		{"fields of a constructor", 0, 8, api.ErrForm, func(n int) api.Module {
			return ofType(api.TypeDef{Name: "t", Cons: []api.ConsDef{consDef("c", fields(n)...)}})
		}},
		{"fields of a relation", 0, 8, api.ErrForm, func(n int) api.Module { return ofRel(api.RelDef{Name: "r", Fields: fields(n)}) }},
		{"Args of a type", 0, 8, api.ErrForm, func(n int) api.Module { return ofFieldType(typ("t", times(n, typ("int"))...)) }},
		{"Args of a module's type", 0, 8, api.ErrForm, func(n int) api.Module { return ofFieldType(typ("m.t", times(n, typ("int"))...)) }},
		{"Args of a tuple, from 2 on", 2, 16, api.ErrForm, func(n int) api.Module { return ofFieldType(typ("tuple", times(n, typ("int"))...)) }},
		{"arguments of a head", 0, 8, api.ErrForm, func(n int) api.Module { return ofRule(rule("p", times(n, x))) }},
		{"arguments of an atom", 0, 8, api.ErrForm, func(n int) api.Module { return ofBody([]api.Literal{atom("q", times(n, x)...)}) }},
		{"arguments of a not", 0, 8, api.ErrForm, func(n int) api.Module { return ofBody([]api.Literal{not("q", times(n, x)...)}) }},
		{"arguments of a constructor", 0, 8, api.ErrForm, func(n int) api.Module { return ofRule(rule("p", exprs(cons("c", times(n, x)...)))) }},
		{"arguments of a constructor in a pattern", 0, 8, api.ErrForm, func(n int) api.Module { return ofBody([]api.Literal{atom("q", cons("c", times(n, x)...))}) }},
		{"parts of a tuple, from 2 on", 2, 16, api.ErrForm, func(n int) api.Module { return ofRule(rule("p", exprs(tup(times(n, x)...)))) }},
		{"parts of a tuple in a pattern, from 2 on", 2, 16, api.ErrForm, func(n int) api.Module { return ofBody([]api.Literal{not("q", tup(times(n, x)...))}) }},
	}
}

func ofFieldType(x api.Type) api.Module {
	return ofRel(api.RelDef{Name: "r", Fields: []api.FieldDef{named("f", x)}})
}

func TestP6_1Limits(t *testing.T) {
	for _, l := range limits() {
		for n := range l.most + 3 {
			m := l.make(n)
			m.Name = "m"
			want := api.OK
			switch {
			case n < l.least && !(n == 0 && l.least == 2): // a tuple may be empty
				want = api.ErrForm
			case n > l.most:
				want = l.wrong
			}
			checkModule(t, l.what, m, want)
		}
		m := l.make(l.most * 100)
		m.Name = "m"
		checkModule(t, l.what, m, l.wrong)
	}
}

// TestP6_1LimitsInOtherParts has bodies that are full, or more than that, among others.
func TestP6_1LimitsInOtherParts(t *testing.T) {
	full, more := times(12, cond(variable("X"))), times(13, cond(variable("X")))
	checkModule(t, "256 rules of 12", api.Module{Name: "m", Rules: times(256, rule("p", nil, full...)), Nevers: times(256, never("n", full...))}, api.OK)
	for n := range 4 {
		rules := times(4, rule("p", nil, full...))
		rules[n].Body = more
		checkModule(t, "13 in a rule", api.Module{Name: "m", Rules: rules}, api.ErrFull)
		nevers := times(4, never("n", full...))
		nevers[n].Body = more
		checkModule(t, "13 in a never", api.Module{Name: "m", Nevers: nevers}, api.ErrFull)
	}
	x, eight := variable("X"), times(8, variable("X"))
	checkModule(t, "all full", api.Module{
		Name: "m", Imports: times(8, api.Import{Name: "a"}), Rels: times(64, api.RelDef{Name: "r", Fields: times(8, named("f", typ("t", times(8, typ("int"))...)))}),
		Types:  times(64, api.TypeDef{Name: "t", Params: times(8, "'a"), Cons: times(16, consDef("c", times(8, unnamed(typ("tuple", times(16, typ("int"))...)))...))}),
		Rules:  times(256, rule("p", times(8, tup(times(16, x)...)), times(12, atom("q", times(8, cons("c", eight...))...))...)),
		Nevers: times(256, never("n", times(12, not("q", eight...))...)),
	}, api.OK)
}

// deepened are the ways to put an expression into another one, which is one deeper.
func deepened(e api.Expr) []api.Expr {
	x := variable("X")
	return exprs(cons("c", e), cons("c", x, e), cons("c", e, x), tup(e, x), tup(x, e), tup(x, x, e), call("+", e, x), call("and", x, e), call("not", e), call("neg", e), field("f", e), choice(e, x, x), choice(x, e, x), choice(x, x, e))
}

// TestP6_1Depth has 64 and 65 levels, of each kind, around each kind without arguments.
func TestP6_1Depth(t *testing.T) {
	for _, innermost := range append(exprs(anything()), num(1), text("a"), variable("X"), tup(), cons("nil")) {
		for way := range deepened(innermost) {
			e := innermost
			for depth := 1; depth < 67; depth++ {
				want := api.OK
				if depth > 64 {
					want = api.ErrDeep
				}
				if innermost.Kind != api.Any && (way < 6 && depth%9 == 1 || depth > 62) {
					checkDepth(t, e, want)
				}
				if way < 6 && depth > 62 { // tuples and constructors are patterns, too
					checkPattern(t, "a depth", e, want)
				}
				e = deepened(e)[way]
			}
		}
	}
	checkNoExpr(t, "100000 levels", nestedExpr(100000, num(1)), api.ErrDeep)
	checkPattern(t, "100000 levels", nestedExpr(100000, num(1)), api.ErrDeep)
}

func checkDepth(t *testing.T, e api.Expr, want api.Errno) {
	t.Helper()
	if want != api.OK {
		checkNoExpr(t, "a depth", e, want)
		return
	}
	if s, f := tree.Expr(e); f != api.OK || s == "" {
		t.Errorf("Expr: %v, %q", f, brief(s))
	}
	checkModule(t, "a depth", api.Module{Name: "m", Rules: []api.Rule{rule("p", exprs(variable("X"), e), cond(e), bind("X", e))}, Nevers: []api.Never{never("n", cond(e), bind("X", e))}}, api.OK)
}

func TestP6_1DepthOfTypes(t *testing.T) {
	whole := typ("int")
	for _, innermost := range []api.Type{whole, typ("'a"), typ("tuple"), typ("t")} {
		for _, deeper := range []func(x api.Type) api.Type{
			func(x api.Type) api.Type { return typ("list", x) }, func(x api.Type) api.Type { return typ("m.t", whole, x) }, func(x api.Type) api.Type { return typ("tuple", x, whole) }, func(x api.Type) api.Type { return typ("tuple", whole, whole, x) },
		} {
			x := innermost
			for range 62 {
				x = deeper(x)
			}
			checkType(t, "63 levels", x, api.OK)
			checkType(t, "64 levels", deeper(x), api.OK)
			checkType(t, "65 levels", deeper(deeper(x)), api.ErrDeep)
			checkType(t, "66 levels", deeper(deeper(deeper(x))), api.ErrDeep)
		}
	}
	checkType(t, "100000 levels", nestedType(100000, whole), api.ErrDeep)
}

// TestP6_1DepthIsCountedFromEachExpression has what is 64 deep in each part of a module at once: neither literals, nor aggregates, nor constructors' fields are levels.
func TestP6_1DepthIsCountedFromEachExpression(t *testing.T) {
	e, x := nestedExpr(64, num(1)), nestedType(64, typ("int"))
	body := []api.Literal{atom("q", e, e), not("q", e), cond(e), bind("X", e)}
	m := api.Module{
		Name: "m", Types: []api.TypeDef{{Name: "t", Cons: []api.ConsDef{consDef("c", unnamed(x), named("f", x))}}}, Rels: []api.RelDef{{Name: "r", Fields: []api.FieldDef{named("f", x)}}},
		Rules: []api.Rule{{Rel: "p", Args: exprs(e, e), Aggs: []string{"count", ""}, Body: body}}, Nevers: []api.Never{never("n", body...)},
	}
	checkModule(t, "64 levels", m, api.OK)
	if s, _ := tree.Expr(e); len(s) != 63*3+1 {
		t.Errorf("%d bytes: %s", len(s), s)
	}
	for i := range body {
		deeper := slices.Clone(body)
		deeper[i].Args = slices.Clone(body[i].Args)
		deeper[i].Args[len(deeper[i].Args)-1] = nestedExpr(65, num(1))
		checkModule(t, "65 levels", api.Module{Name: "m", Rules: []api.Rule{rule("p", nil, deeper...)}}, api.ErrDeep)
		checkModule(t, "65 levels", api.Module{Name: "m", Nevers: []api.Never{never("n", deeper...)}}, api.ErrDeep)
	}
}
