package module_test

import (
	"strings"
	"testing"

	"corollary/api"
	"corollary/module"
)

// TestErrorsNumberOfModules has no modules, and more than there may be.
func TestErrorsNumberOfModules(t *testing.T) {
	checkRefused(t, "nil", nil, module.Where{}, api.ErrArg)
	checkRefused(t, "none", []api.Module{}, module.Where{}, api.ErrArg)
	checkRefused(t, "none, with one behind the end", []api.Module{{Name: "m"}}[:0], module.Where{}, api.ErrArg)
	names := strings.Fields("a b c d e f g h i j k l")
	for n := 1; n <= 12; n++ {
		var l []api.Module
		for _, s := range names[:n] {
			l = append(l, api.Module{Name: s})
		}
		if n <= 8 {
			checkModules(t, "so many", l, api.Module{Name: "a"})
		} else {
			checkRefused(t, "too many", l, module.Where{}, api.ErrFull)
		}
	}
	checkRefused(t, "nine times the same", times(9, api.Module{Name: "m"}), module.Where{}, api.ErrFull)
	checkRefused(t, "nine times nothing", make([]api.Module, 9), module.Where{}, api.ErrFull)
	checkRefused(t, "very many", make([]api.Module, 1000000), module.Where{}, api.ErrFull)
}

// TestErrorsModules has what can't be printed in the first and in later modules, and modules of one name.
func TestErrorsModules(t *testing.T) {
	deep := nestedExpr(65, "c", api.Expr{Kind: api.Var, Name: "X"})
	rule := func(body ...api.Literal) []api.Rule { return []api.Rule{{Rel: "p", Body: body}} }
	for _, wrong := range []struct {
		m api.Module
		e api.Errno
	}{
		{api.Module{}, api.ErrForm}, {api.Module{Name: "rel"}, api.ErrForm}, {api.Module{Name: "M"}, api.ErrForm}, {api.Module{Name: "a.b"}, api.ErrForm}, {api.Module{Name: strings.Repeat("n", 33)}, api.ErrForm},
		{api.Module{Name: "w", Imports: []api.Import{{Name: ""}}}, api.ErrForm}, {api.Module{Name: "w", Imports: []api.Import{{Name: "a.b"}}}, api.ErrForm}, {api.Module{Name: "w", Imports: times(9, api.Import{Name: "m"})}, api.ErrFull},
		{api.Module{Name: "w", Types: []api.TypeDef{{Name: "t", Pos: api.Pos{Line: 3, Col: 4}}}}, api.ErrForm}, {api.Module{Name: "w", Types: []api.TypeDef{{Name: "w.t", Cons: []api.ConsDef{{Name: "c"}}}}}, api.ErrForm}, {api.Module{Name: "w", Types: []api.TypeDef{{Name: "t", Cons: []api.ConsDef{{Name: "w.c"}}}}}, api.ErrForm},
		{api.Module{Name: "w", Rels: []api.RelDef{{Name: "w.r", Pos: api.Pos{Line: 3, Col: 4}}}}, api.ErrForm}, {api.Module{Name: "w", Rels: times(65, api.RelDef{Name: "r"})}, api.ErrFull}, {api.Module{Name: "w", Rels: []api.RelDef{{Name: "r", Fields: []api.FieldDef{{Name: "f", Type: nestedType(65, "t", api.Type{Name: "int"})}}}}}, api.ErrDeep},
		{api.Module{Name: "w", Rules: []api.Rule{{Rel: "a.b.c"}}}, api.ErrForm}, {api.Module{Name: "w", Rules: rule(api.Literal{Kind: api.Cond, Args: []api.Expr{deep}})}, api.ErrDeep}, {api.Module{Name: "w", Rules: rule(times(13, api.Literal{Kind: api.Atom, Rel: "p"})...)}, api.ErrFull}, {api.Module{Name: "w", Rules: []api.Rule{{Rel: "p", Args: []api.Expr{deep}}}}, api.ErrDeep},
		{api.Module{Name: "w", Nevers: []api.Never{{Name: "w.n", Body: []api.Literal{{Kind: api.Atom, Rel: "p"}}}}}, api.ErrForm}, {api.Module{Name: "w", Nevers: []api.Never{{Name: "n"}}}, api.ErrForm},
	} {
		m, at := api.Module{Name: "m", Rels: []api.RelDef{{Name: "p"}}}, whereIn(wrong.m.Name, api.Pos{})
		what := wrong.m.Name + ", " + wrong.e.Error()
		checkRefused(t, what, []api.Module{wrong.m}, at, wrong.e)
		checkRefused(t, what, []api.Module{wrong.m, m}, at, wrong.e)
		checkRefused(t, what, []api.Module{m, wrong.m}, at, wrong.e)
		checkRefused(t, what, []api.Module{m, {Name: "n"}, {Name: "o"}, wrong.m, m}, at, wrong.e)
		checkRefused(t, what, []api.Module{m, m, wrong.m}, whereIn("m", api.Pos{}), api.ErrTwice)
		checkRefused(t, what, []api.Module{wrong.m, wrong.m}, at, wrong.e)
		checkRefused(t, what, []api.Module{m, {Name: wrong.m.Name, Rels: []api.RelDef{{}}}, wrong.m}, at, api.ErrForm)
	}
	for _, names := range []string{"m m", "m m m", "a m m", "m a m", "m a b c d m", "a m b m a m"} {
		var l []api.Module
		for _, s := range strings.Fields(names) {
			l = append(l, api.Module{Name: s, Imports: []api.Import{{Name: "nope", Pos: api.Pos{Line: 2, Col: 1}}}})
		}
		checkRefused(t, names, l, whereIn("m", api.Pos{}), api.ErrTwice)
	}
}

// TestErrorsImports has imports of no module, and those that are there already.
func TestErrorsImports(t *testing.T) {
	a, b := "module a", "module b"
	checkRefusedAt(t, api.ErrName, "module m ^import b")
	checkRefusedAt(t, api.ErrName, "module m import a\n ^import c\nimport b", a, b)
	checkRefusedAt(t, api.ErrName, "module m import a import b", a, "module b import a ^import c import d")
	checkRefusedAt(t, api.ErrName, "module m ^import c import c", a)
	checkRefusedAt(t, api.ErrName, "module m import a ^import c import a", a)
	checkRefusedAt(t, api.ErrTwice, "module m import a ^import a import c", a)
	checkRefusedAt(t, api.ErrTwice, "module m import a ^import a", a)
	checkRefusedAt(t, api.ErrTwice, "module m import a import b\n ^import b import a", a, b)
	checkRefusedAt(t, api.ErrTwice, "module m import a import b\n ^import a import b", a, b)
	checkRefusedAt(t, api.ErrTwice, "module m import a", a, "module b import a ^import a")
	checkRefusedAt(t, api.ErrTwice, "module m import a import b ^import a", a, "module b import c")
	checkRefusedAt(t, api.ErrTwice, "module m import m ^import m")
	checkAccepted(t, "module m import a import b", "module b import a", a)
	checkAccepted(t, "module m", "module b import a import m", "module a import m")
}

// TestErrorsDeclarations has what is declared twice in one module, and parameters that are none.
func TestErrorsDeclarations(t *testing.T) {
	for _, s := range []string{
		"type a = b ^type a = c", "type a = b type c = d type e = f\n ^pub type a('p) = g", "^type a('p, 'p) = b", "type a = b ^type c('a, 'b, 'a) = d", "^type a = b | b", "^type a = b | c(int) | b(int)", "type a = b ^type c = b", "type a = b | c | d type e = f\n^type g = h | d", "^type a('p, 'p) = b('q)", "^type a = b('p) | b", "type a = b ^type a = c('p)", "type a = b ^type c = b('p)",
		"rel a() ^rel a()", "rel a() ^input a()", "input a(x: int) rel b()\n ^pub rel a()", "rel a() ^rel a(x: 'p)",
		"never a :- true. ^never a :- false.", "never a :- true. never b :- true.\n ^never a :- true.",
	} {
		checkRefusedAt(t, api.ErrTwice, "module m "+s)
		checkRefusedAt(t, api.ErrTwice, "module m "+s, "module n type a = b rel a() never a :- true.")
		checkRefusedAt(t, api.ErrTwice, "module n type a = b rel a() never a :- true.", "module m "+s)
	}
	for _, s := range []string{
		"^type a = b('p)", "^type a('p) = b('p, 'q)", "^type a('p, 'q) = b | c('p, 'q) | d(int, x: 'r)", "^type a('p) = b((int, ('p, 'q)))", "^type a('p) = b(a(a('q)))", "type a('q) = b('q) ^type c('p) = d('q)", "^type a('p) = b(c('q))", "^type a = b('a)", "^type a = b(nope('p))", "^type a = b('p) type a = c",
		"^rel a(x: 'p)", "^rel a(x: int, y: ((int, 'p), int))", "rel a() ^input b(x: b('p))", "^rel a(x: 'p) rel a()", "type a('p) = b('p) ^rel c(x: a('p))", "^rel a(x: 'p) never a :- true. never a :- true.",
	} {
		checkRefusedAt(t, api.ErrName, "module m "+s)
		checkRefusedAt(t, api.ErrName, "module m "+s, "module n type a = b rel a() never a :- true.")
		checkRefusedAt(t, api.ErrName, "module n type a = b rel a() never a :- true.", "module m "+s)
	}
	checkAccepted(t, "module m type a('p) = a('p) | b(x: 'p, x: 'p) type b('p) = c('p) rel a(x: a(int), x: int) rel b() never a :- a(X, X). never b :- a(X, X). a(X, X). a(X, X).", "module n type a('p) = a('p) | b type b('p) = c('p) rel a(x: a(int)) rel b() never a :- a(X). never b :- a(X).")
}

// TestErrorsWhereNamesHaveNone has several names without meaning in one module: the first one is told.
func TestErrorsWhereNamesHaveNone(t *testing.T) {
	for _, s := range []string{
		"^type t = c(nope) type u = d(nope)", "type t = c ^type u = d(nope) rel s(x: nope)", "^rel s(x: int, y: nope) rel u(x: nope)", "rel s() ^rel u(x: nope) s() :- nope().",
		"rel s() ^nope(nope, 1) :- nope(nope).", "rel s() s(1, ^nope(nope, 1)) :- nope(nope).", "rel s() s(1, (X, ^nope(nope(nope), nope)), nope) :- nope(nope).", "rel s() type t = c s(c(c(^nope(nope)), nope), nope).", "rel s() s(^nope + nope).", "rel s() s(if ^nope then nope else nope).", "rel s() type t = c s(if c then ^nope else nope).", "rel s() type t = c s(if c then c else (^nope).f).",
		"rel s() s() :- ^nope(nope, nope), nope(nope).", "rel s() s() :- s(^nope, nope), nope(nope).", "rel s() s() :- s(X, (1, (2, ^nope(nope, nope))), nope), nope(nope).", "rel s() s() :- s(), ^not nope(nope), X = nope.", "rel s() s() :- s(), not s(X, ^nope), X = nope.", "rel s() s() :- X = (1, ^nope(nope)), (nope), nope().", "rel s() s() :- s(), 1 == ^nope, nope().", "rel s() s() :- s(). ^nope(). s() :- nope().",
		"rel s() never n :- ^nope(nope). never o :- nope().", "rel s() s() :- s(^nope). never o :- nope().", "rel s() never n :- s(), X = ^nope, nope(). never o :- nope().", "rel s() never n :- s(), not s(^nope), nope().", "rel s() never n :- true. never o :- s(), ^not nope().",
	} {
		checkRefusedAt(t, api.ErrName, "module m "+s)
		checkRefusedAt(t, api.ErrName, "module m "+s, "module z type t = c(nope) nope() :- nope().")
		checkRefusedAt(t, api.ErrName, "module z pub rel s() s() :- s().", "module m "+s)
	}
}
