package infer_test

import (
	"slices"
	"strconv"
	"strings"
	"testing"

	"corollary/api"
	"corollary/decl"
	"corollary/infer"
	"corollary/parse"
	"corollary/unify"
	"corollary/value"
)

// valueOf is a value of a type without parameters, of up to so many levels or as few as possible.
func (g *generator) valueOf(x api.Type, levels int) api.Value {
	switch x.Name {
	case "bool", "int", "big", "text":
		return g.built(x, 1, nil).Value
	case "tuple":
		v := api.Value{Kind: api.Tuple}
		for _, arg := range x.Args {
			v.L = append(v.L, g.valueOf(arg, levels-1))
		}
		return v
	}
	for _, d := range g.m.Types {
		if d.Name != x.Name {
			continue
		}
		c := pick(g, d.Cons...)
		if levels <= 0 {
			c = d.Cons[0]
		}
		v := api.Value{Kind: api.Cons, S: c.Name}
		for _, f := range c.Fields {
			v.L = append(v.L, g.valueOf(putIn(f.Type, d.Params, x.Args), levels-1))
		}
		return v
	}
	panic("no type " + x.Name)
}

// values are some of the types of variables, whose unknown parts are any types: first these types.
func (g *generator) values(l []infer.Var) (map[string]api.Type, map[string]api.Value) {
	types, values := map[string]api.Type{}, map[string]api.Value{}
	by := map[string]api.Type{}
	for _, v := range l {
		for _, name := range unify.Vars([]api.Type{v.Type}) {
			if _, known := by[name]; !known {
				by[name] = g.typed(2)
			}
		}
		x := v.Type
		for name, other := range by {
			x = decl.Put(x, []string{name}, []api.Type{other})
		}
		types[v.Name], values[v.Name] = x, g.valueOf(x, 3)
	}
	return types, values
}

// soundness evaluates expressions of modules whose types have been found.
type soundness struct {
	*testing.T
	g      *generator
	m      api.Module
	table  *decl.Table
	count  map[bool]int // of expressions that have values, and that have not
	values map[string]api.Value
	types  map[string]api.Type
}

// check requires that an expression has a value of a type, or fails.
func (s *soundness) check(x api.Expr, want api.Type) {
	s.Helper()
	v, ok := evaluation{s.m, s.values}.valueOf(s.T, x)
	s.count[ok]++
	if ok && !s.table.Is(v, want) {
		s.Errorf("%+v has not the type %s", v, shown(want))
	}
}

// any requires that an expression has a value, or fails.
func (s *soundness) any(x api.Expr) {
	s.Helper()
	_, ok := evaluation{s.m, s.values}.valueOf(s.T, x)
	s.count[ok]++
}

func (s *soundness) body(l []infer.Var, body []api.Literal) {
	s.Helper()
	s.types, s.values = s.g.values(l)
	for _, x := range body {
		switch x.Kind {
		case api.Cond:
			s.check(x.Args[0], typ("bool"))
		case api.Bind:
			s.check(x.Args[0], s.types[x.Rel])
		default:
			rel, _ := s.table.Rel(x.Rel)
			for i, arg := range x.Args {
				if !hasAny(arg) {
					s.check(arg, rel.Fields[i].Type)
				}
			}
		}
	}
}

// hasAny tells whether a pattern is no expression.
func hasAny(x api.Expr) bool { return x.Kind == api.Any || slices.ContainsFunc(x.Args, hasAny) }

// TestP11_2Soundness evaluates all expressions of random rules, some of which have been spoiled and still have types, for values of the types that were found.
func TestP11_2Soundness(t *testing.T) {
	g := newGenerator(3)
	s := &soundness{T: t, g: g, count: map[bool]int{}}
	for range 5000 {
		m := g.module(2)
		g.spoil(&m, g.IntN(3))
		found, _, e := infer.Make(m)
		if e != api.OK {
			continue
		}
		s.m = m
		s.table, _, _ = decl.New(m)
		for i, n := range m.Nevers {
			s.body(found.Nevers[i], n.Body)
		}
		for i, r := range m.Rules {
			s.body(found.Rules[i], r.Body)
			rel, _ := s.table.Rel(r.Rel)
			for k, x := range r.Args {
				if r.Aggs[k] == "count" || r.Aggs[k] == "sum" {
					s.any(x)
				} else {
					s.check(x, rel.Fields[k].Type)
				}
			}
		}
	}
	if s.count[true] < 4000 || s.count[false] < 20 {
		t.Errorf("%v", s.count)
	}
}

// TestP11_2Examples has expressions whose values are known, so that the test's own evaluation is held to something.
func TestP11_2Examples(t *testing.T) {
	m := moduleOf(t, declared)
	env := map[string]api.Value{"X": {Kind: api.Int, N: 3}, "P": {Kind: api.Cons, S: "pt", L: []api.Value{{Kind: api.Int, N: 5}, {Kind: api.Text, S: "a"}}}}
	for _, x := range []struct{ s, want string }{
		{"X * 2 - 1", "5"}, {"-7 / 2", "-3"}, {"-7 % 2", "-1"}, {"P.x + len(P.y)", "6"}, {"big(X) * 2b", "6b"}, {`P.y ++ "b"`, `"ab"`}, {"if X > 2 then (X, nil) else ((), nil)", "(3, nil)"}, {"not X == 3 or X != 3", "false"},
	} {
		e, _, _ := parse.Expr(x.s)
		if v, ok := (evaluation{m, env}).valueOf(t, e); !ok || value.Show(v) != x.want {
			t.Errorf("%s: %s", x.s, value.Show(v))
		}
	}
	for _, s := range []string{"1 / 0", "1 % 0", "9223372036854775807 + 1", "-(-9223372036854775808)"} {
		e, _, _ := parse.Expr(s)
		if v, ok := (evaluation{m, env}).valueOf(t, e); ok {
			t.Errorf("%s: %s", s, value.Show(v))
		}
	}
}

// renaming gives variables other names, each its own.
type renaming map[string]string

// newRenaming has other names in another order, some of them like those of unknown types.
func (g *generator) newRenaming() renaming {
	r := renaming{}
	names := strings.Fields("A A1 A2 B B1 Z Z9 X Y Int Big Text Tuple Bool List A_ AA A0 C D E F G H I J K L M N O P Q R S T U V W")
	for i := range 30 {
		names = append(names, "V"+strconv.Itoa(i))
	}
	g.Shuffle(len(names), func(i, k int) { names[i], names[k] = names[k], names[i] })
	for i := range 40 {
		r[varName(i)] = names[i]
	}
	return r
}

func (r renaming) of(name string) string {
	if other, there := r[name]; there {
		return other
	}
	return "Q" + name
}

func (r renaming) body(l []api.Literal) {
	for i, x := range l {
		if x.Kind == api.Bind {
			l[i].Rel = r.of(x.Rel)
		}
		r.exprs(x.Args)
	}
}

func (r renaming) exprs(l []api.Expr) {
	for _, x := range exprsIn(l) {
		if x.Kind == api.Var {
			x.Name = r.of(x.Name)
		}
	}
}

// TestP11_3Names gives the variables of random rules other names, in each rule its own: the same types, or the same error.
func TestP11_3Names(t *testing.T) {
	g := newGenerator(4)
	seen := map[api.Errno]int{}
	for range 2000 {
		m := g.module(2)
		g.spoil(&m, g.IntN(3))
		want, first, wantE := infer.Make(m)
		other := copied(m)
		for i, r := range other.Rules {
			to := g.newRenaming()
			to.body(r.Body)
			to.exprs(r.Args)
			if wantE == api.OK {
				to.names(want.Rules[i])
			}
		}
		for i, n := range other.Nevers {
			to := g.newRenaming()
			to.body(n.Body)
			if wantE == api.OK {
				to.names(want.Nevers[i])
			}
		}
		got, at, e := infer.Make(other)
		seen[e]++
		if e != wantE || at != first || !same(got, want) {
			t.Fatalf("%v at %v, not %v at %v\n%s\n%s", e, at, wantE, first, shownTypes(got), shownTypes(want))
		}
	}
	if seen[api.OK] < 500 || seen[api.ErrType] < 500 {
		t.Errorf("%v", seen)
	}
}

func (r renaming) names(l []infer.Var) {
	for i, v := range l {
		l[i].Name = r.of(v.Name)
	}
}

// TestP11_4EachRuleByItself has each rule and each never of random modules alone, and all of them in another order.
func TestP11_4EachRuleByItself(t *testing.T) {
	g := newGenerator(5)
	for range 400 {
		m := g.accepted(5)
		all := made(t, m)
		for i := range m.Rules {
			alone := m
			alone.Rules, alone.Nevers = m.Rules[i:i+1], nil
			if got := made(t, alone); !same(got.Rules, all.Rules[i:i+1]) {
				t.Errorf("alone: %s, not %s", shownTypes(got), shownVars(all.Rules[i]))
			}
		}
		for i := range m.Nevers {
			alone := m
			alone.Rules, alone.Nevers = nil, m.Nevers[i:i+1]
			if got := made(t, alone); !same(got.Nevers, all.Nevers[i:i+1]) {
				t.Errorf("alone: %s, not %s", shownTypes(got), shownVars(all.Nevers[i]))
			}
		}
		mixed, want := m, infer.Types{}
		mixed.Rules, mixed.Nevers = nil, nil
		for _, i := range g.Perm(len(m.Rules)) {
			mixed.Rules, want.Rules = append(mixed.Rules, m.Rules[i]), append(want.Rules, all.Rules[i])
		}
		for _, i := range g.Perm(len(m.Nevers)) {
			mixed.Nevers, want.Nevers = append(mixed.Nevers, m.Nevers[i]), append(want.Nevers, all.Nevers[i])
		}
		if got := made(t, mixed); !same(got, want) {
			t.Errorf("in another order: %s, not %s", shownTypes(got), shownTypes(want))
		}
	}
}

// TestP11_4SameNames has rules whose variables have the same names, but other types.
func TestP11_4SameNames(t *testing.T) {
	checkTypes(t, "pn(X) :- Y = X. pt2(X) :- Y = nil. pg(X) :- Y = Z. p() :- X = Y. never a :- X. never b :- X = (Y, Y). never c :- ln(X), Y = X.",
		"Y int; X int\nY list('a); X text\nY 'a; Z 'a; X big\nX 'a; Y 'a\n--\nX bool\nX tuple('a, 'a); Y 'a\nX list(int); Y list(int)")
	for _, other := range []string{"p() :- ^1.", "p() :- X = Y^.x."} {
		checkText(t, "pn(X) :- Y = X. "+other+" never a :- X.", api.ErrType)
	}
}
