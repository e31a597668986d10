package decl_test

import (
	"math"
	"slices"
	"strconv"
	"strings"
	"testing"

	"corollary/api"
	"corollary/decl"
)

// checkDeclared requires that a table has what a module declares, as it is declared, and nothing by other names.
func checkDeclared(t *testing.T, x *decl.Table, m api.Module) {
	t.Helper()
	isType, isCons, isRel := map[string]bool{}, map[string]bool{}, map[string]bool{}
	for _, d := range m.Types {
		isType[d.Name] = true
		if got, there := x.Type(d.Name); !there || !same(got, d) {
			t.Errorf("Type(%q): %+v, %v, not %+v", d.Name, got, there, d)
		}
		for i, c := range d.Cons {
			isCons[c.Name] = true
			want := decl.Cons{Type: d.Name, Params: d.Params, Place: i, Fields: c.Fields}
			if got, there := x.Cons(c.Name); !there || !same(got, want) {
				t.Errorf("Cons(%q): %+v, %v, not %+v", c.Name, got, there, want)
			}
		}
	}
	for _, d := range m.Rels {
		isRel[d.Name] = true
		if got, there := x.Rel(d.Name); !there || !same(got, d) {
			t.Errorf("Rel(%q): %+v, %v, not %+v", d.Name, got, there, d)
		}
	}
	for _, names := range []map[string]bool{isType, isCons, isRel, {"": true, "nope": true, "int": true, "bool": true, "big": true, "text": true, "tuple": true, "'a": true, "'": true, m.Name: true}} {
		for name := range names {
			if got, there := x.Type(name); !isType[name] && (there || !same(got, api.TypeDef{})) {
				t.Errorf("Type(%q): %+v, %v", name, got, there)
			}
			if got, there := x.Cons(name); !isCons[name] && (there || !same(got, decl.Cons{})) {
				t.Errorf("Cons(%q): %+v, %v", name, got, there)
			}
			if got, there := x.Rel(name); !isRel[name] && (there || !same(got, api.RelDef{})) {
				t.Errorf("Rel(%q): %+v, %v", name, got, there)
			}
		}
	}
}

func TestP10_1WhatIsDeclared(t *testing.T) {
	for _, s := range []string{
		"",
		"type t = c",
		"pub type list('a) = nil | cons(head: 'a, list('a))\npub input edge(from: int, to: int)\nrel p(l: list(int), x: (bool, (text, big), ()))\nrel none()",
		"type t = t(t: u)\ntype u = u | v(t, t)\nrel t(t: t) rel u(u: u)",
		"type pair('a, 'b) = pair('a, 'b) | swapped('b, 'a) | both(x: ('a, 'b), y: pair('b, 'a))\ntype deep = d(pair(pair(int, text), list(list(int)))) type list('x) = e | f('x, list('x))",
		"type p('a, 'b, 'c, 'd, 'e, 'f, 'g, 'h) = c('h, 'g, 'f, 'e, 'd, 'c, 'b, 'a)\nrel r(a: 'a, b: p('a, 'a, 'b, 'c, 'd, 'e, 'f, int), c: ('a, ('z, int)))",
		"type a = a | b(x: int, text, y: int, int, text) rel r(x: int, y: int) input s(x: int, y: int)",
		"import other import m rel r(x: int) r(X) :- r(X), not r(1), X = 1, X == 1. never n :- r(1). never n :- r(_).",
	} {
		m := moduleOf(t, s)
		checkDeclared(t, made(t, m), m)
	}
}

// TestP10_1AnyNames has texts that are no names, and others that are those of something else, for types, constructors, relations and fields.
func TestP10_1AnyNames(t *testing.T) {
	for _, name := range []string{"", " ", "a", "A", "m.a", "a.b.c", "\x00", "\xff", "a'", "(", ",", "_", "1", "not", "type", "Int", "int ", "ints", "tuples", "boolean", "bi", strings.Repeat("x", 100000)} {
		field := []api.FieldDef{{Name: name, Type: typ(name)}}
		m := api.Module{Name: name, Types: []api.TypeDef{{Name: name, Cons: []api.ConsDef{{Name: name}, {Name: name + "2", Fields: field}}}}, Rels: []api.RelDef{{Name: name, Fields: field}}}
		made := api.Expr{Kind: api.Make, Name: name}
		m.Rules = []api.Rule{{Rel: name, Args: []api.Expr{made}, Aggs: []string{""}, Body: []api.Literal{{Kind: api.Atom, Rel: name, Args: []api.Expr{made}}}}}
		x, at, e := decl.New(m)
		if e != api.OK {
			t.Errorf("%q: %v at %v", name, e, at)
			continue
		}
		checkDeclared(t, x, m)
	}
	for _, name := range []string{"bool", "int", "big", "text", "tuple", "'a", "'", "true"} {
		m := api.Module{Types: []api.TypeDef{{Name: "t", Cons: []api.ConsDef{{Name: name, Fields: []api.FieldDef{{Name: name, Type: typ("int")}}}}}}, Rels: []api.RelDef{{Name: name, Fields: []api.FieldDef{{Name: name, Type: typ("t")}}}}}
		checkDeclared(t, made(t, m), m)
	}
}

// TestP10_1AnyParameters has lists of parameters that are not as a text may have them: they are returned as they are.
func TestP10_1AnyParameters(t *testing.T) {
	for _, params := range [][]string{{"'a", "'a"}, {"a"}, {"int", "", "'"}, {"'", "'a'", "'\xff"}, times(100, "'x")} {
		m := api.Module{Types: []api.TypeDef{{Name: "t", Params: params, Cons: []api.ConsDef{{Name: "c"}}}}}
		x := made(t, m)
		checkDeclared(t, x, m)
		for n := range 110 {
			if got := x.Well(typ("t", times(n, typ("int"))...)); got != (n == len(params)) {
				t.Errorf("%q with %d: %v", params, n, got)
			}
		}
	}
}

// TestP10_1NoLimits has more of everything than a text may have.
func TestP10_1NoLimits(t *testing.T) {
	var m api.Module
	fields := times(20, api.FieldDef{Type: typ("int")})
	args := times(20, api.Expr{Kind: api.Make, Name: "c"})
	for i := range 300 {
		name := strconv.Itoa(i)
		m.Imports = append(m.Imports, api.Import{})
		m.Types = append(m.Types, api.TypeDef{Name: "t" + name, Cons: []api.ConsDef{{Name: "c" + name, Fields: fields}}})
		m.Rels = append(m.Rels, api.RelDef{Name: "r" + name, Fields: fields})
		m.Rules = append(m.Rules, api.Rule{Rel: "r1", Args: args, Aggs: times(20, "wrong"), Body: times(100, api.Literal{Kind: api.Atom, Rel: "r" + name, Args: args})})
		m.Nevers = append(m.Nevers, api.Never{Body: times(100, api.Literal{Kind: api.Not, Rel: "r" + name, Args: args})})
	}
	d := api.TypeDef{Name: "t"}
	for i := range 1000 {
		d.Cons = append(d.Cons, api.ConsDef{Name: "d" + strconv.Itoa(i)})
	}
	d.Cons = append(d.Cons, api.ConsDef{Name: "c"})
	m.Types = append(m.Types, d)
	checkDeclared(t, made(t, m), m)
}

// TestP10_1Positions has positions that can't be, which are returned as they are.
func TestP10_1Positions(t *testing.T) {
	strange := api.Pos{Line: math.MinInt, Col: math.MaxInt}
	m := moduleOf(t, "type t = c rel r(x: t)")
	m.Types[0].Pos, m.Rels[0].Pos = strange, strange
	checkDeclared(t, made(t, m), m)
	m.Types[0].Name = "int"
	checkRefused(t, "a type int", m, strange, api.ErrTwice)
}

// chain are types of which each needs the next one, except for its first constructor, which needs itself. The last one needs another type.
func chain(n int, last api.Type) []api.TypeDef {
	var l []api.TypeDef
	for i := range n {
		name, next := strconv.Itoa(i), typ(strconv.Itoa(i+1))
		if i == n-1 {
			next = last
		}
		l = append(l, api.TypeDef{Name: name, Pos: api.Pos{Line: 1 + i}, Cons: []api.ConsDef{{Name: "again" + name, Fields: []api.FieldDef{{Type: typ(name)}}}, {Name: name, Fields: []api.FieldDef{{Type: next}}}}})
	}
	return l
}

func TestP10_1LongChains(t *testing.T) {
	const n = 50000
	for _, reversed := range []bool{false, true} {
		good, bad := chain(n, typ("int")), chain(n, typ(strconv.Itoa(n/2)))
		first := api.Pos{Line: 1}
		if reversed {
			slices.Reverse(good)
			slices.Reverse(bad)
			first = api.Pos{Line: n}
		}
		made(t, api.Module{Types: good})
		checkRefused(t, "a chain that leads back", api.Module{Types: bad}, first, api.ErrNone)
	}
}

// TestP10_1LongLists has a type of many parameters, each of which is the type of a field.
func TestP10_1LongLists(t *testing.T) {
	const n = 50000
	var params []string
	var fields []api.FieldDef
	for i := range n {
		params = append(params, "'"+strconv.Itoa(i))
		fields = append(fields, api.FieldDef{Name: strconv.Itoa(i), Type: typ(params[i])})
	}
	many := api.TypeDef{Name: "many", Params: params, Cons: []api.ConsDef{{Name: "c", Fields: fields}}}
	used := api.RelDef{Name: "r", Pos: api.Pos{Line: 1}, Fields: []api.FieldDef{{Type: typ("many", times(n, typ("'a"))...)}}}
	m := api.Module{Types: []api.TypeDef{many}, Rels: []api.RelDef{used}}
	checkDeclared(t, made(t, m), m)
	used.Fields[0].Type.Args = used.Fields[0].Type.Args[1:]
	checkRefused(t, "too few Args", m, used.Pos, api.ErrType)
	fields[n-1].Name = "0"
	checkRefused(t, "a field twice", m, api.Pos{}, api.ErrTwice)
}
