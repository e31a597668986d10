package infer_test

import (
	"strings"
	"testing"

	"corollary/api"
)

func lit(n int64) api.Expr          { return api.Expr{Kind: api.Lit, Value: api.Value{Kind: api.Int, N: n}} }
func variable(name string) api.Expr { return api.Expr{Kind: api.Var, Name: name} }
func tup(args ...api.Expr) api.Expr { return api.Expr{Kind: api.Tup, Args: args} }
func call(name string, args ...api.Expr) api.Expr {
	return api.Expr{Kind: api.Call, Name: name, Args: args}
}
func construct(name string, args ...api.Expr) api.Expr {
	return api.Expr{Kind: api.Make, Name: name, Args: args}
}

// deep is an expression of so many levels, in tuples, which is a pattern as well.
func deep(levels int) api.Expr {
	x := lit(1)
	for range levels - 1 {
		x = tup(lit(1), x)
	}
	return x
}

// spot is a place for an expression, or a pattern, in a module.
type spot struct {
	what      string
	isPattern bool
	at        api.Pos // of its rule, or its never
	put       func(m api.Module, x api.Expr)
}

// spots are all places for expressions, and for patterns, in a module.
func spots(m api.Module) []spot {
	var l []spot
	bodies := func(what string, at api.Pos, body []api.Literal, in func(m api.Module) []api.Literal) {
		for k, x := range body {
			for j := range x.Args {
				l = append(l, spot{what, x.Kind == api.Atom || x.Kind == api.Not, at, func(m api.Module, x api.Expr) { in(m)[k].Args[j] = x }})
			}
		}
	}
	for i, r := range m.Rules {
		for k := range r.Args {
			l = append(l, spot{"head", false, r.Pos, func(m api.Module, x api.Expr) { m.Rules[i].Args[k] = x }})
		}
		bodies("rule", r.Pos, r.Body, func(m api.Module) []api.Literal { return m.Rules[i].Body })
	}
	for i, n := range m.Nevers {
		bodies("never", n.Pos, n.Body, func(m api.Module) []api.Literal { return m.Nevers[i].Body })
	}
	return l
}

const sound = declared + `
pnt(X, max(Y)) :- nt(X, Y), not nt(X, "a"), X < 1, Z = (X, Y).
p() :- X = 1.
never a :- nt(X, Y), not nt(X, "a"), X < 1, Z = (X, Y).
never b :- n(1), n(2), 1 < 2.`

// soundModule is one in which all is right. Two of its constructors are declared, but can be in no expression.
func soundModule(t *testing.T) api.Module {
	m := moduleOf(t, sound)
	nine := api.ConsDef{Name: "nine", Fields: times(9, api.FieldDef{Type: typ("int")})}
	m.Types = append(m.Types, api.TypeDef{Name: "odd", Cons: []api.ConsDef{{Name: "len"}, nine}})
	made(t, m)
	return m
}

// invalid are expressions that are none, and no patterns either.
func invalid() []api.Expr {
	long := strings.Repeat("a", 32)
	wrongLit := func(v api.Value) api.Expr { return api.Expr{Kind: api.Lit, Value: v} }
	return []api.Expr{
		{}, {Kind: 9}, {Kind: 255},
		wrongLit(api.Value{}), wrongLit(api.Value{Kind: api.Bool, N: 2}), wrongLit(api.Value{Kind: api.Big, S: "01"}), wrongLit(api.Value{Kind: api.Tuple}),
		wrongLit(api.Value{Kind: api.Cons, S: "nil"}), wrongLit(api.Value{Kind: api.Text, S: strings.Repeat("a", 4097)}), wrongLit(api.Value{Kind: api.Int, S: "1"}),
		{Kind: api.Lit, Name: "x", Value: api.Value{Kind: api.Int}}, {Kind: api.Lit, Value: api.Value{Kind: api.Int}, Args: []api.Expr{lit(1)}},
		variable("x"), variable(""), variable("_"), variable("X.Y"), variable("A" + long), {Kind: api.Var, Name: "X", Args: []api.Expr{lit(1)}},
		tup(lit(1)), tup(times(17, lit(1))...), {Kind: api.Tup, Name: "x"},
		construct("len"), construct("nine", times(9, lit(1))...), {Kind: api.Make, Name: "nil", Value: api.Value{Kind: api.Int}},
		call("foo", lit(1)), call("+", lit(1)), call("not", lit(1), lit(1)), call("", lit(1)), call("if", lit(1)),
		{Kind: api.Field, Name: "X", Args: []api.Expr{lit(1)}}, {Kind: api.Field, Args: []api.Expr{lit(1)}}, {Kind: api.Field, Name: "x"}, {Kind: api.Field, Name: "x", Args: times(2, lit(1))},
		{Kind: api.If, Args: times(2, lit(1))}, {Kind: api.If, Args: times(4, lit(1))}, {Kind: api.If, Name: "x", Args: times(3, lit(1))},
		{Kind: api.Any, Name: "X"}, {Kind: api.Any, Args: []api.Expr{lit(1)}},
	}
}

// TestErrorsOfForm has invalid expressions and patterns at each place, alone and in others: at the rule.
func TestErrorsOfForm(t *testing.T) {
	m := soundModule(t)
	for _, s := range spots(m) {
		wrong := invalid()
		if s.isPattern {
			wrong = append(wrong, call("+", lit(1), lit(1)), call("not", lit(1)), api.Expr{Kind: api.Field, Name: "x", Args: []api.Expr{variable("X")}}, api.Expr{Kind: api.If, Args: times(3, lit(1))})
		} else {
			wrong = append(wrong, api.Expr{Kind: api.Any})
		}
		for _, x := range wrong {
			for _, y := range []api.Expr{x, tup(lit(1), x), construct("some", tup(x, lit(1)))} {
				spoiled := copied(m)
				s.put(spoiled, y)
				checkRefused(t, s.what, spoiled, s.at, api.ErrForm)
			}
		}
	}
}

// TestErrorsOfDepth has expressions and patterns of the most levels, and of one more, at each place: at the rule.
func TestErrorsOfDepth(t *testing.T) {
	m := soundModule(t)
	for _, s := range spots(m) {
		for _, y := range []api.Expr{deep(65), deep(66), deep(1000), tup(deep(64), api.Expr{}), {Kind: 9, Args: []api.Expr{deep(64)}}, {Kind: api.Var, Name: "X", Args: []api.Expr{deep(64)}}} {
			spoiled := copied(m)
			s.put(spoiled, y)
			checkRefused(t, s.what, spoiled, s.at, api.ErrDeep)
		}
		spoiled := copied(m)
		s.put(spoiled, tup(deep(63), api.Expr{}))
		checkRefused(t, s.what, spoiled, s.at, api.ErrForm)
	}
	m = copied(m)
	x := typ("int")
	for range 63 {
		x = typ("tuple", typ("int"), x)
	}
	m.Rels = append(m.Rels, api.RelDef{Name: "deep", Fields: []api.FieldDef{{Name: "x", Type: x}}})
	for _, kind := range []uint8{api.Atom, api.Not} {
		body := []api.Literal{{Kind: kind, Rel: "deep", Args: []api.Expr{deep(64)}}, {Kind: api.Bind, Rel: "X", Args: []api.Expr{deep(64)}}, {Kind: api.Cond, Args: []api.Expr{call("==", deep(63), deep(63))}}}
		m.Rules = append(m.Rules, api.Rule{Rel: "deep", Args: []api.Expr{deep(64)}, Aggs: []string{""}, Body: body})
		m.Nevers = append(m.Nevers, api.Never{Body: body})
	}
	made(t, m)
}

// TestErrorsOfLiterals has literals that are none, and aggregates that are none.
func TestErrorsOfLiterals(t *testing.T) {
	m := soundModule(t)
	yes := api.Expr{Kind: api.Lit, Value: api.Value{Kind: api.Bool, N: 1}}
	for _, x := range []struct {
		l api.Literal
		e api.Errno
	}{
		{api.Literal{Kind: api.Cond, Args: []api.Expr{yes}}, api.OK},
		{api.Literal{Kind: api.Bind, Rel: "V", Args: []api.Expr{yes}}, api.OK},
		{api.Literal{Kind: api.Bind, Rel: "V" + strings.Repeat("a", 31), Args: []api.Expr{yes}}, api.OK},
		{api.Literal{Kind: api.Bind, Rel: "V" + strings.Repeat("a", 32), Args: []api.Expr{yes}}, api.ErrForm},
		{api.Literal{Kind: api.Bind, Rel: "v", Args: []api.Expr{yes}}, api.ErrForm},
		{api.Literal{Kind: api.Bind, Rel: "", Args: []api.Expr{yes}}, api.ErrForm},
		{api.Literal{Kind: api.Bind, Rel: "_", Args: []api.Expr{yes}}, api.ErrForm},
		{api.Literal{Kind: api.Bind, Rel: "V.x", Args: []api.Expr{yes}}, api.ErrForm},
		{api.Literal{Kind: api.Bind, Rel: "V", Args: nil}, api.ErrForm},
		{api.Literal{Kind: api.Bind, Rel: "V", Args: []api.Expr{yes, yes}}, api.ErrForm},
		{api.Literal{Kind: api.Bind, Rel: "V", Args: []api.Expr{yes, deep(65)}}, api.ErrDeep},
		{api.Literal{Kind: api.Bind, Rel: "", Args: []api.Expr{deep(65)}}, api.ErrDeep},
		{api.Literal{Kind: api.Cond}, api.ErrForm},
		{api.Literal{Kind: api.Cond, Args: []api.Expr{yes, yes}}, api.ErrForm},
		{api.Literal{Kind: api.Cond, Args: []api.Expr{{}, deep(65)}}, api.ErrDeep},
		{api.Literal{}, api.ErrForm},
		{api.Literal{Args: []api.Expr{yes}}, api.ErrForm},
		{api.Literal{Kind: 5, Rel: "n", Args: []api.Expr{lit(1)}}, api.ErrForm},
		{api.Literal{Kind: 255, Rel: "V", Args: []api.Expr{yes}}, api.ErrForm},
		{api.Literal{Kind: 7, Args: []api.Expr{{Kind: api.Any}, deep(65)}}, api.ErrDeep},
	} {
		for i, r := range m.Rules {
			for _, at := range []int{0, len(r.Body)} {
				n := copied(m)
				n.Rules[i].Body = append(append(append([]api.Literal{}, r.Body[:at]...), x.l), r.Body[at:]...)
				checkRefused(t, "a literal", n, atIf(x.e, r.Pos), x.e)
			}
		}
		for i, r := range m.Nevers {
			n := copied(m)
			n.Nevers[i].Body = append(n.Nevers[i].Body, x.l)
			checkRefused(t, "a literal", n, atIf(x.e, r.Pos), x.e)
		}
	}
	for _, agg := range []string{"avg", "Count", "count ", "_", "+", "counts"} {
		for k := range 2 {
			n := copied(m)
			n.Rules[0].Aggs[k] = agg
			checkRefused(t, agg, n, m.Rules[0].Pos, api.ErrForm)
		}
	}
}

func atIf(e api.Errno, at api.Pos) api.Pos {
	if e == api.OK {
		return api.Pos{}
	}
	return at
}

// TestErrorsOfConditionsWithARel has a condition with a Rel, to which the chapter gives no meaning there.
func TestErrorsOfConditionsWithARel(t *testing.T) {
	m := soundModule(t)
	want := shownTypes(made(t, m))
	m.Rules[0].Body[2].Rel, m.Nevers[1].Body[2].Rel = "V", "n"
	if got := shownTypes(made(t, m)); got != want {
		t.Errorf("%s, not %s", got, want)
	}
}

// TestErrorsOfDecl has each of decl.New's errors, alone and behind all kinds of errors of infer.
func TestErrorsOfDecl(t *testing.T) {
	large := "type one = one(x: int) rel r(x: int) r(true). rel p() input n(x: int) type box('a) = box(v: 'a) "
	for _, x := range []struct {
		s string
		e api.Errno
	}{
		{"type t = c ^type t = d", api.ErrTwice},
		{"^type t = c(u)", api.ErrName},
		{"type list('a) = nil | cons('a, list('a)) ^type u = d(list)", api.ErrType},
		{"^type t('a) = c | d(t(('a, 'a)))", api.ErrGrow},
		{"^type t = c(t)", api.ErrNone},
		{"^rel q(x: int, x: int)", api.ErrTwice},
		{"^input q(x: t)", api.ErrName},
		{"^nope() :- 1.", api.ErrName},
		{"^n(1).", api.ErrState},
		{"p() :- 1, ^nope().", api.ErrName},
		{"never a :- ^not n(1, 2), 1.", api.ErrType},
		{"never a :- 1 == ^nope.", api.ErrName},
		{"^p(1).", api.ErrType},
	} {
		m, at := marked(t, "type box('a) = box(v: 'a) rel p() input n(x: int) "+x.s)
		checkRefused(t, x.s, m, at, x.e)
		m, at = marked(t, large+x.s)
		checkRefused(t, x.s, m, at, x.e)
		for _, wrong := range []api.Type{wide(2049), wide(2)} {
			m.Types[0].Cons[0].Fields[0].Type = wrong
			m.Rels[0].Fields[0].Type = typ("'a")
			m.Rules[0].Args[0] = deep(65)
			checkRefused(t, x.s, m, at, x.e)
		}
	}
	m, _ := marked(t, large)
	m.Rules[0].Aggs = nil
	checkRefused(t, "no Aggs", m, m.Rules[0].Pos, api.ErrForm)
}
