package tree_test

import (
	"testing"

	"corollary/api"
	"corollary/tree"
)

// program is the document's example of a text.
func program() (api.Module, string) {
	a, whole := typ("'a"), typ("int")
	x, y, z := variable("X"), variable("Y"), variable("Z")
	m := api.Module{
		Name:  "graph",
		Types: []api.TypeDef{{Pub: true, Name: "list", Params: []string{"'a"}, Cons: []api.ConsDef{consDef("nil"), consDef("cons", named("head", a), named("tail", typ("list", a)))}}},
		Rels: []api.RelDef{
			{Pub: true, Input: true, Name: "edge", Fields: []api.FieldDef{named("from", whole), named("to", whole)}},
			{Pub: true, Name: "path", Fields: []api.FieldDef{named("from", whole), named("to", whole)}},
			{Name: "deg", Fields: []api.FieldDef{named("node", whole), named("n", whole)}},
		},
		Rules: []api.Rule{
			rule("path", exprs(x, y), atom("edge", x, y)),
			rule("path", exprs(x, z), atom("path", x, y), atom("edge", y, z)),
			{Rel: "deg", Args: exprs(x, y), Aggs: []string{"", "count"}, Body: []api.Literal{atom("edge", x, y)}},
		},
		Nevers: []api.Never{never("loop", atom("path", x, x), not("edge", x, x))},
	}
	return m, `module graph
pub type list('a) = nil | cons(head: 'a, tail: list('a))
pub input edge(from: int, to: int)
pub rel path(from: int, to: int)
rel deg(node: int, n: int)
path(X, Y) :- edge(X, Y).
path(X, Z) :- path(X, Y), edge(Y, Z).
deg(X, count(Y)) :- edge(X, Y).
never loop :- path(X, X), not edge(X, X).
`
}

func TestP6_1TheProgramOfTheDocument(t *testing.T) {
	m, want := program()
	if s, e := tree.Print(m); e != api.OK || s != want {
		t.Errorf("%v\n%s", e, s)
	}
	if e := tree.Check(m); e != api.OK {
		t.Error(e)
	}
}

func TestP6_1TheEmptyModule(t *testing.T) {
	checkRefused(t, "no name", api.Module{}, api.ErrForm)
	checkText(t, api.Module{})
	checkText(t, api.Module{Imports: []api.Import{}, Types: []api.TypeDef{}, Rels: []api.RelDef{}, Rules: []api.Rule{}, Nevers: []api.Never{}})
}

func TestP6_1ModuleLine(t *testing.T) {
	for _, name := range []string{"m", "graph", "aB_9"} {
		if s, e := tree.Print(api.Module{Name: name}); e != api.OK || s != "module "+name+"\n" {
			t.Errorf("%s: %v, %q", name, e, s)
		}
	}
}

func TestP6_1ImportLines(t *testing.T) {
	checkText(t, api.Module{Imports: []api.Import{{Name: "a"}}}, "import a")
	checkText(t, api.Module{Imports: []api.Import{{Name: "b"}, {Name: "a"}, {Name: "b"}, {Name: "m"}}}, "import b", "import a", "import b", "import m")
}

func TestP6_1TypeLines(t *testing.T) {
	a, b := typ("'a"), typ("'b")
	for want, d := range map[string]api.TypeDef{
		"type t = c":             {Name: "t", Cons: []api.ConsDef{consDef("c")}},
		"pub type t = c":         {Pub: true, Name: "t", Cons: []api.ConsDef{consDef("c")}},
		"type t = c | d | c":     {Name: "t", Cons: []api.ConsDef{consDef("c"), consDef("d"), consDef("c")}},
		"type t('a) = c":         {Name: "t", Params: []string{"'a"}, Cons: []api.ConsDef{consDef("c")}},
		"pub type t('a, 'b) = c": {Pub: true, Name: "t", Params: []string{"'a", "'b"}, Cons: []api.ConsDef{consDef("c")}},
		"type t('a, 'a, 'c) = c": {Name: "t", Params: []string{"'a", "'a", "'c"}, Cons: []api.ConsDef{consDef("c")}},
		"type t = c(int)":        {Name: "t", Cons: []api.ConsDef{consDef("c", unnamed(typ("int")))}},
		"type t = c(x: int)":     {Name: "t", Cons: []api.ConsDef{consDef("c", named("x", typ("int")))}},
		"type t = c(int, x: text, 'b) | d | e(x: 'a, x: t)":        {Name: "t", Cons: []api.ConsDef{consDef("c", unnamed(typ("int")), named("x", typ("text")), unnamed(b)), consDef("d"), consDef("e", named("x", a), named("x", typ("t")))}},
		"pub type list('a) = nil | cons(head: 'a, tail: list('a))": {Pub: true, Name: "list", Params: []string{"'a"}, Cons: []api.ConsDef{consDef("nil"), consDef("cons", named("head", a), named("tail", typ("list", a)))}},
	} {
		checkText(t, api.Module{Types: []api.TypeDef{d}}, want)
		checkText(t, api.Module{Types: []api.TypeDef{d, {Name: "u", Cons: []api.ConsDef{consDef("c")}}, d}}, want, "type u = c", want)
	}
	checkRefused(t, "no constructor", api.Module{Name: "m", Types: []api.TypeDef{{Name: "t"}}}, api.ErrForm)
	checkRefused(t, "an empty list of constructors", api.Module{Name: "m", Types: []api.TypeDef{{Name: "t", Cons: []api.ConsDef{}}}}, api.ErrForm)
}

func TestP6_1RelationLines(t *testing.T) {
	for want, d := range map[string]api.RelDef{
		"rel r()":                 {Name: "r"},
		"pub rel r()":             {Pub: true, Name: "r"},
		"input r()":               {Input: true, Name: "r"},
		"pub input r()":           {Pub: true, Input: true, Name: "r"},
		"rel r(x: int)":           {Name: "r", Fields: []api.FieldDef{named("x", typ("int"))}},
		"input r(x: int)":         {Input: true, Name: "r", Fields: []api.FieldDef{named("x", typ("int"))}},
		"pub rel r(x: 'a, x: ())": {Pub: true, Name: "r", Fields: []api.FieldDef{named("x", typ("'a")), named("x", typ("tuple"))}},
		"pub input r(a: bool, b: list(int), c: m.t)": {Pub: true, Input: true, Name: "r", Fields: []api.FieldDef{named("a", typ("bool")), named("b", typ("list", typ("int"))), named("c", typ("m.t"))}},
	} {
		checkText(t, api.Module{Rels: []api.RelDef{d}}, want)
		checkText(t, api.Module{Rels: []api.RelDef{d, {Name: "q"}, d}}, want, "rel q()", want)
	}
	checkRefused(t, "a field without a name", api.Module{Name: "m", Rels: []api.RelDef{{Name: "r", Fields: []api.FieldDef{unnamed(typ("int"))}}}}, api.ErrForm)
	checkRefused(t, "a second field without a name", api.Module{Name: "m", Rels: []api.RelDef{{Name: "r", Fields: []api.FieldDef{named("x", typ("int")), unnamed(typ("int"))}}}}, api.ErrForm)
}

// TestP6_1Types has each form of a type, in a constructor and in a relation.
func TestP6_1Types(t *testing.T) {
	whole, flag := typ("int"), typ("bool")
	for want, x := range map[string]api.Type{
		"bool": flag, "int": whole, "big": typ("big"), "text": typ("text"), "'a": typ("'a"), "t": typ("t"), "m.t": typ("m.t"), "()": typ("tuple"), "(int, bool)": typ("tuple", whole, flag), "(int, (), (bool, int))": typ("tuple", whole, typ("tuple"), typ("tuple", flag, whole)),
		"t(int)": typ("t", whole), "m.t(int, 'b)": typ("m.t", whole, typ("'b")), "t(())": typ("t", typ("tuple")), "t((int, int))": typ("t", typ("tuple", whole, whole)), "t(m.t(t(int), text))": typ("t", typ("m.t", typ("t", whole), typ("text"))), "(t(int), t)": typ("tuple", typ("t", whole), typ("t")),
	} {
		checkText(t, api.Module{Types: []api.TypeDef{{Name: "u", Cons: []api.ConsDef{consDef("c", unnamed(x), named("f", x))}}}}, "type u = c("+want+", f: "+want+")")
		checkText(t, api.Module{Rels: []api.RelDef{{Name: "r", Fields: []api.FieldDef{named("f", x), named("g", x)}}}}, "rel r(f: "+want+", g: "+want+")")
	}
	for _, x := range []api.Type{
		{}, typ("", whole), typ("bool", whole), typ("int", whole), typ("big", whole), typ("text", whole), typ("bool", whole, whole), typ("text", typ("text")), typ("'a", whole), typ("'a", typ("'a"), whole), typ("tuple", whole), typ("tuple", typ("tuple")),
		typ("t", typ("")), typ("tuple", whole, typ("")), typ("tuple", typ(""), whole), typ("t", whole, typ("int", whole)), typ("t", typ("tuple", whole)), typ("m.t", typ("'a", whole)), typ("tuple", whole, whole, typ("tuple", whole)), typ("t", typ("t", typ("t", typ("T")))), typ("()"), typ("(int, int)"), typ("t(int)"),
	} {
		checkType(t, x.Name, x, api.ErrForm)
	}
	checkText(t, api.Module{Rels: []api.RelDef{{Name: "r", Fields: []api.FieldDef{named("f", api.Type{Name: "int", Args: []api.Type{}})}}}}, "rel r(f: int)")
}

// checkType requires that a type may be in the fields of constructors and relations, or not, as an error says.
func checkType(t *testing.T, what string, x api.Type, want api.Errno) {
	t.Helper()
	for _, l := range [][]api.FieldDef{{named("f", x)}, {named("f", typ("int")), named("g", x)}, {named("f", x), named("g", typ("int"))}} {
		checkModule(t, what+" in a relation", api.Module{Name: "m", Rels: []api.RelDef{{Name: "q"}, {Name: "r", Fields: l}}}, want)
		checkModule(t, what+" in a constructor", api.Module{Name: "m", Types: []api.TypeDef{{Name: "u", Cons: []api.ConsDef{consDef("c"), consDef("d", l...)}}}}, want)
	}
	checkModule(t, what+" in a field without a name", api.Module{Name: "m", Types: []api.TypeDef{{Name: "u", Cons: []api.ConsDef{consDef("c", unnamed(x))}}}}, want)
}

func TestP6_1RuleLines(t *testing.T) {
	x, y := variable("X"), variable("Y")
	for want, r := range map[string]api.Rule{
		"p().":                  rule("p", nil),
		"m.p().":                rule("m.p", nil),
		"p(1).":                 rule("p", exprs(num(1))),
		"p(X, \"a\", (X + 1)).": rule("p", exprs(x, text("a"), call("+", x, num(1)))),
		"p() :- q().":           rule("p", nil, atom("q")),
		"p(X) :- q(X), not r(X), (X > 1), Y = X.": rule("p", exprs(x), atom("q", x), not("r", x), cond(call(">", x, num(1))), bind("Y", x)),
		"m.p(X, Y) :- m.q(X), n.q(Y).":            rule("m.p", exprs(x, y), atom("m.q", x), atom("n.q", y)),
		"p(count(X)) :- q(X).":                    {Rel: "p", Args: exprs(x), Aggs: []string{"count"}, Body: []api.Literal{atom("q", x)}},
		"p(sum(X), min(Y), max(X), X).":           {Rel: "p", Args: exprs(x, y, x, x), Aggs: []string{"sum", "min", "max", ""}},
		"p(X, sum((X + Y))).":                     {Rel: "p", Args: exprs(x, call("+", x, y)), Aggs: []string{"", "sum"}},
		"p(max((X, Y)), count(())).":              {Rel: "p", Args: exprs(tup(x, y), tup()), Aggs: []string{"max", "count"}},
		"p(min(neg(X)), max((not X))).":           {Rel: "p", Args: exprs(call("neg", x), call("not", x)), Aggs: []string{"min", "max"}},
		"p(count(nil), count(c(1)), 2).":          {Rel: "p", Args: exprs(cons("nil"), cons("c", num(1)), num(2)), Aggs: []string{"count", "count", ""}},
		"p(sum(X.f), sum((if X then Y else 1))).": {Rel: "p", Args: exprs(field("f", x), choice(x, y, num(1))), Aggs: []string{"sum", "sum"}},
	} {
		checkText(t, api.Module{Rules: []api.Rule{r}}, want)
		checkText(t, api.Module{Rules: []api.Rule{r, rule("q", nil), r}}, want, "q().", want)
	}
}

func TestP6_1Aggregates(t *testing.T) {
	x := variable("X")
	for _, s := range append(aggregates(), candidates()...) {
		r := api.Rule{Rel: "p", Args: exprs(x, x, x), Aggs: []string{"", s, "count"}}
		switch s {
		case "":
			checkText(t, api.Module{Rules: []api.Rule{r}}, "p(X, X, count(X)).")
		case "count", "sum", "min", "max":
			checkText(t, api.Module{Rules: []api.Rule{r}}, "p(X, "+s+"(X), count(X)).")
		default:
			checkRefused(t, "the aggregate "+s, api.Module{Name: "m", Rules: []api.Rule{r}}, api.ErrForm)
		}
	}
	for _, aggs := range [][]string{nil, {}, {""}, {"count"}, {"", "", ""}, {"", "", "count"}, {"count", "count", "count"}} {
		checkRefused(t, "other than two aggregates", api.Module{Name: "m", Rules: []api.Rule{{Rel: "p", Args: exprs(x, x), Aggs: aggs}}}, api.ErrForm)
	}
	checkRefused(t, "an aggregate of nothing", api.Module{Name: "m", Rules: []api.Rule{{Rel: "p", Aggs: []string{""}}}}, api.ErrForm)
	checkText(t, api.Module{Rules: []api.Rule{{Rel: "p", Args: exprs(), Aggs: []string{}}}}, "p().")
}

func TestP6_1NeverLines(t *testing.T) {
	x := variable("X")
	for want, n := range map[string]api.Never{
		"never n :- q().":                        never("n", atom("q")),
		"never loop :- edge(X, X), (X != 3).":    never("loop", atom("edge", x, x), cond(call("!=", x, num(3)))),
		"never n :- not m.q(_), X = 1, X, true.": never("n", not("m.q", anything()), bind("X", num(1)), cond(x), cond(truth(1))),
	} {
		checkText(t, api.Module{Nevers: []api.Never{n}}, want)
		checkText(t, api.Module{Nevers: []api.Never{n, never("k", atom("q")), n}}, want, "never k :- q().", want)
	}
	checkRefused(t, "no body", api.Module{Name: "m", Nevers: []api.Never{never("n")}}, api.ErrForm)
	checkRefused(t, "an empty body", api.Module{Name: "m", Nevers: []api.Never{{Name: "n", Body: []api.Literal{}}}}, api.ErrForm)
}

// TestP6_1Literals has each form of a literal, in a rule and in a never.
func TestP6_1Literals(t *testing.T) {
	x, nil0 := variable("X"), cons("nil")
	for want, l := range map[string]api.Literal{
		"q()": atom("q"), "m.q()": atom("m.q"), "q(_)": atom("q", anything()), "q(X, _, 1, -2b, \"a\", false, (), (X, c(_)))": atom("q", x, anything(), num(1), long("-2"), text("a"), truth(0), tup(), tup(x, cons("c", anything()))), "q(nil)": atom("q", nil0), "q(m.c((), X))": atom("q", cons("m.c", tup(), x)),
		"not q()": not("q"), "not m.q()": not("m.q"), "not q(X, _, nil, (1, 2))": not("q", x, anything(), nil0, tup(num(1), num(2))), "not m.q(c(nil))": not("m.q", cons("c", nil0)),
		"X": cond(x), "true": cond(truth(1)), "-1": cond(num(-1)), "\"a\"": cond(text("a")), "()": cond(tup()), "(X, 1)": cond(tup(x, num(1))), "(nil)": cond(nil0), "(m.c)": cond(cons("m.c")), "(c(X, nil))": cond(cons("c", x, nil0)), "(X == nil)": cond(call("==", x, nil0)),
		"(not X)": cond(call("not", x)), "neg(X)": cond(call("neg", x)), "len(nil)": cond(call("len", nil0)), "X.f": cond(field("f", x)), "(nil).f": cond(field("f", nil0)), "(nil).f.g": cond(field("g", field("f", nil0))), "(if X then nil else nil)": cond(choice(x, nil0, nil0)),
		"X = 1": bind("X", num(1)), "Y = X": bind("Y", x), "X1 = nil": bind("X1", nil0), "X = c(nil)": bind("X", cons("c", nil0)), "X = (Y == 1)": bind("X", call("==", variable("Y"), num(1))), "X = (if X then 1 else 2)": bind("X", choice(x, num(1), num(2))), "X = (nil).f": bind("X", field("f", nil0)), "X = neg(X)": bind("X", call("neg", x)),
	} {
		m := api.Module{Rules: []api.Rule{rule("p", nil, l), rule("p", nil, atom("r"), l, l)}, Nevers: []api.Never{never("n", l), never("n", l, cond(x), l)}}
		checkText(t, m, "p() :- "+want+".", "p() :- r(), "+want+", "+want+".", "never n :- "+want+".", "never n :- "+want+", X, "+want+".")
	}
}

func TestP6_1WrongLiterals(t *testing.T) {
	x := variable("X")
	l := []api.Literal{
		{}, {Rel: "q"}, {Args: exprs(x)}, cond(), cond(x, x), cond(anything()), bind("X"), bind("X", x, x), bind("X", anything()), bind("X", tup(x, anything())), cond(tup(anything(), x)), {Kind: api.Cond, Args: exprs()}, {Kind: api.Cond, Rel: "q", Args: exprs(x)}, {Kind: api.Cond, Rel: "X", Args: exprs(x)},
		atom("q", call("+", x, num(1))), atom("q", call("not", x)), atom("q", call("neg", x)), atom("q", field("f", x)), atom("q", choice(x, x, x)), atom("q", tup(x, call("neg", x))), atom("q", x, cons("c", cons("c", field("f", x)))), atom("q", api.Expr{}), atom(""), not(""), bind("", x), not("q", choice(x, x, x)), not("q", x, api.Expr{}), not("q", call("neg", x)),
	}
	for kind := range 256 {
		if kind < 1 || kind > 4 {
			l = append(l, api.Literal{Kind: uint8(kind)}, api.Literal{Kind: uint8(kind), Rel: "q"}, api.Literal{Kind: uint8(kind), Rel: "X", Args: exprs(x)}, api.Literal{Kind: uint8(kind), Args: exprs(x)})
		}
	}
	for _, x := range l {
		for _, body := range [][]api.Literal{{x}, {atom("q"), x}, {x, atom("q")}} {
			checkRefused(t, "a wrong literal in a rule", api.Module{Name: "m", Rules: []api.Rule{rule("p", nil, body...)}}, api.ErrForm)
			checkRefused(t, "a wrong literal in a never", api.Module{Name: "m", Nevers: []api.Never{never("n", body...)}}, api.ErrForm)
		}
	}
}

// TestP6_1AllLinesInOrder has two of each kind of line, whose order in the text is that of the kinds, and then their own.
func TestP6_1AllLinesInOrder(t *testing.T) {
	c := []api.ConsDef{consDef("c")}
	m := api.Module{
		Nevers:  []api.Never{never("n", atom("q")), never("k", atom("q"))},
		Rules:   []api.Rule{rule("q", nil), rule("p", nil)},
		Rels:    []api.RelDef{{Name: "s"}, {Input: true, Name: "r"}, {Name: "q"}},
		Types:   []api.TypeDef{{Name: "u", Cons: c}, {Name: "t", Cons: c}},
		Imports: []api.Import{{Name: "b"}, {Name: "a"}},
	}
	checkText(t, m, "import b", "import a", "type u = c", "type t = c", "rel s()", "input r()", "rel q()", "q().", "p().", "never n :- q().", "never k :- q().")
}
