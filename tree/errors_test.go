package tree_test

import (
	"testing"

	"corollary/api"
	"corollary/tree"
)

// defect is one thing that is wrong, which is put into a module before, or behind, what is there.
type defect struct {
	what string
	put  func(m *api.Module, before bool)
}

func putRule(what string, r api.Rule) defect {
	return defect{what, func(m *api.Module, before bool) { m.Rules = joined(m.Rules, before, r) }}
}

func putNever(what string, n api.Never) defect {
	return defect{what, func(m *api.Module, before bool) { m.Nevers = joined(m.Nevers, before, n) }}
}

func putRel(what string, d api.RelDef) defect {
	return defect{what, func(m *api.Module, before bool) { m.Rels = joined(m.Rels, before, d) }}
}

func putType(what string, d api.TypeDef) defect {
	return defect{what, func(m *api.Module, before bool) { m.Types = joined(m.Types, before, d) }}
}

func joined[T any](l []T, before bool, more ...T) []T {
	if before {
		return append(more, l...)
	}
	return append(l[:len(l):len(l)], more...)
}

// deepDefects are of ErrDeep, some of them for other errors, too.
func deepDefects() []defect {
	x, deep, deepType := variable("X"), nestedExpr(65, num(1)), nestedType(65, typ("int"))
	return []defect{
		putRule("a deep head", rule("p", exprs(x, deep))), putRule("a deep atom", rule("p", nil, atom("q", x, deep))), putRule("a deep not", rule("p", nil, atom("q"), not("q", deep))), putRule("a deep condition", rule("p", nil, cond(deep))), putRule("a deep binding", rule("p", nil, bind("X", deep))),
		putNever("a deep never", never("n", atom("q"), atom("q", deep))), putNever("a deep binding", never("n", bind("X", deep))), putRel("a deep relation", api.RelDef{Name: "r", Fields: []api.FieldDef{named("f", typ("int")), named("g", deepType)}}), putType("a deep constructor", api.TypeDef{Name: "t", Cons: []api.ConsDef{consDef("c"), consDef("c", unnamed(typ("int")), unnamed(deepType))}}),
		putRule("a deep wrong head", rule("P", exprs(nestedExpr(65, api.Expr{})))), putRule("a deep argument of no Kind", rule("p", exprs(api.Expr{Args: exprs(nestedExpr(64, num(1)))}))), putRule("a deep argument of a variable", rule("p", exprs(api.Expr{Kind: api.Var, Name: "X", Args: exprs(x, nestedExpr(64, num(1)))}))), putRule("a deep argument of a literal", rule("p", nil, cond(api.Expr{Kind: api.Lit, Args: exprs(nestedExpr(64, num(1)))}))), putRule("a deep argument of anything", rule("p", nil, atom("q", api.Expr{Kind: api.Any, Args: exprs(nestedExpr(64, num(1)))}))),
		putRule("a deep literal of no Kind", rule("p", nil, api.Literal{Args: exprs(deep)})), putRule("a deep second condition", rule("p", nil, cond(x, deep))), putRule("a deep ninth argument", rule("p", append(times(8, x), deep))), putRule("a deep call in a pattern", rule("p", nil, atom("q", call("not", nestedExpr(64, x))))), putRule("a deep thirteenth literal", rule("p", nil, append(times(12, atom("q")), atom("q", deep))...)),
		putRule("a deep head without aggregates", api.Rule{Rel: "p", Args: exprs(deep)}), putNever("a deep never without a name", never("", cond(deep))), putRel("a deep relation without a name", api.RelDef{Fields: []api.FieldDef{unnamed(deepType)}}), putType("a deep type without a name", api.TypeDef{Cons: []api.ConsDef{consDef("", unnamed(deepType))}}), putRel("a deep Arg of a parameter", ofFieldType(typ("'a", nestedType(64, typ("int")))).Rels[0]), putRel("a deep Arg of int", ofFieldType(typ("int", nestedType(64, typ("int")))).Rels[0]),
		putRel("a deep Arg of no name", ofFieldType(nestedType(65, typ(""))).Rels[0]), putRule("a deep tuple of one", rule("p", exprs(tup(nestedExpr(64, x))))), putRule("endless", rule("p", exprs(endless()))), putRel("an endless type", ofFieldType(endlessType()).Rels[0]),
	}
}

// formDefects are of ErrForm, some of them for ErrFull, too.
func formDefects() []defect {
	x := variable("X")
	return []defect{
		{"no name", func(m *api.Module, _ bool) { m.Name = "" }}, {"a reserved name", func(m *api.Module, _ bool) { m.Name = "rel" }}, {"a long name", func(m *api.Module, _ bool) { m.Name = "a.b" }}, {"an import without a name", func(m *api.Module, before bool) { m.Imports = joined(m.Imports, before, api.Import{}) }}, {"an import of a long name", func(m *api.Module, before bool) { m.Imports = joined(m.Imports, before, api.Import{Name: "a.b"}) }},
		putType("no constructor", api.TypeDef{Name: "t"}), putType("nine parameters", api.TypeDef{Name: "t", Params: times(9, "'a"), Cons: []api.ConsDef{consDef("c")}}), putType("17 constructors", api.TypeDef{Name: "t", Cons: times(17, consDef("c"))}), putType("a tuple of one", api.TypeDef{Name: "t", Cons: []api.ConsDef{consDef("c", unnamed(typ("tuple", typ("int"))))}}), putRel("nine fields", api.RelDef{Name: "r", Fields: times(9, named("f", typ("int")))}), putRel("a field without a name", api.RelDef{Name: "r", Fields: []api.FieldDef{unnamed(typ("int"))}}),
		putRule("a head without a name", rule("", nil)), putRule("nine arguments", rule("p", times(9, x))), putRule("no aggregates", api.Rule{Rel: "p", Args: exprs(x)}), putRule("a wrong aggregate", api.Rule{Rel: "p", Args: exprs(x), Aggs: []string{"avg"}}), putRule("_ in a head", rule("p", exprs(anything()))), putRule("a literal that is a tuple", rule("p", exprs(lit(api.Value{Kind: api.Tuple})))), putRule("a wrong thirteenth literal", rule("p", nil, append(times(12, atom("q")), atom("Q"))...)), putRule("a literal of no Kind", rule("p", nil, api.Literal{})),
		putNever("a never without a name", never("", atom("q"))), putNever("a never without a body", never("n")), putNever("an atom of nine", never("n", atom("q", times(9, x)...))), putNever("a wrong first of 13", never("n", append([]api.Literal{cond()}, times(12, atom("q"))...)...)), putRule("a deep value", rule("p", exprs(lit(endlessValue())))),
	}
}

// fullDefects are of ErrFull alone.
func fullDefects() []defect {
	return []defect{
		{"nine imports", func(m *api.Module, before bool) {
			m.Imports = joined(m.Imports, before, times(9, api.Import{Name: "a"})...)
		}},
		{"65 types", func(m *api.Module, before bool) {
			m.Types = joined(m.Types, before, times(65, api.TypeDef{Name: "t", Cons: []api.ConsDef{consDef("c")}})...)
		}},
		{"65 relations", func(m *api.Module, before bool) { m.Rels = joined(m.Rels, before, times(65, api.RelDef{Name: "r"})...) }},
		{"257 rules", func(m *api.Module, before bool) { m.Rules = joined(m.Rules, before, times(257, rule("p", nil))...) }},
		{"257 nevers", func(m *api.Module, before bool) {
			m.Nevers = joined(m.Nevers, before, times(257, never("n", atom("q")))...)
		}},
		putRule("13 literals", rule("p", nil, times(13, atom("q"))...)), putNever("13 literals in a never", never("n", times(13, atom("q"))...)),
	}
}

// checkDefects puts defects into a module that has some parts, or none, one after another.
func checkDefects(t *testing.T, want api.Errno, l ...defect) {
	t.Helper()
	for _, before := range []bool{false, true} {
		m, _ := program()
		small := api.Module{Name: "m"}
		what := ""
		for _, x := range l {
			x.put(&m, before)
			x.put(&small, before)
			what += x.what + ", "
		}
		checkRefused(t, what, m, want)
		checkRefused(t, what, small, want)
	}
}

func TestErrorsOfModules(t *testing.T) {
	for want, l := range map[api.Errno][]defect{api.ErrDeep: deepDefects(), api.ErrForm: formDefects(), api.ErrFull: fullDefects()} {
		for _, x := range l {
			checkDefects(t, want, x)
		}
	}
}

// TestErrorsInTheirOrder has each two of different errors in one module.
func TestErrorsInTheirOrder(t *testing.T) {
	for _, deep := range deepDefects() {
		for _, form := range formDefects() {
			checkDefects(t, api.ErrDeep, deep, form)
			checkDefects(t, api.ErrDeep, form, deep)
		}
		for _, full := range fullDefects() {
			checkDefects(t, api.ErrDeep, deep, full)
			checkDefects(t, api.ErrDeep, full, deep)
		}
	}
	for _, form := range formDefects() {
		for _, full := range fullDefects() {
			checkDefects(t, api.ErrForm, form, full)
			checkDefects(t, api.ErrForm, full, form)
			checkDefects(t, api.ErrDeep, form, full, deepDefects()[0])
		}
	}
	for _, a := range fullDefects() {
		for _, b := range fullDefects() {
			checkDefects(t, api.ErrFull, a, b)
		}
	}
}

// TestErrorsOfExpressions has what is wrong beside, above and below what is too deep.
func TestErrorsOfExpressions(t *testing.T) {
	deep := nestedExpr(64, num(1))
	for _, wrong := range exprs(api.Expr{}, anything(), variable("x"), tup(num(1)), cons("C"), call("!", num(1)), field("f"), choice(), lit(api.Value{Kind: api.Tuple}), lit(api.Value{Kind: api.Big, S: "01"})) {
		checkNoExpr(t, "wrong", wrong, api.ErrForm)
		checkNoExpr(t, "wrong at a lower level", nestedExpr(63, wrong), api.ErrForm)
		checkNoExpr(t, "wrong before deep", tup(wrong, deep), api.ErrDeep)
		checkNoExpr(t, "wrong behind deep", tup(deep, wrong), api.ErrDeep)
		checkNoExpr(t, "wrong within deep", nestedExpr(65, wrong), api.ErrDeep)
		wrong.Args = append(wrong.Args[:len(wrong.Args):len(wrong.Args)], deep)
		checkNoExpr(t, "deep within wrong", wrong, api.ErrDeep)
	}
}

// TestErrorsOfTheChapter are its own examples.
func TestErrorsOfTheChapter(t *testing.T) {
	checkRefused(t, "without a name", api.Module{}, api.ErrForm)
	checkNoExpr(t, "Lit of a tuple", lit(api.Value{Kind: api.Tuple}), api.ErrForm)
	checkRefused(t, "257 rules", api.Module{Name: "m", Rules: times(257, rule("p", nil))}, api.ErrFull)
	if e := tree.Check(api.Module{Name: "type"}); e != api.ErrForm {
		t.Error(e)
	}
}
