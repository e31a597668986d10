package decl_test

import (
	"slices"
	"testing"

	"corollary/api"
	"corollary/decl"
)

// TestP10_1TwiceInTypes has what is there already among types, at the position of the type.
func TestP10_1TwiceInTypes(t *testing.T) {
	for _, s := range []string{
		"type t = c ^type t = d", "type t = c type u = d ^type t('a) = e", "type t = c ^type t = d type t = e",
		"^type t = c | c", "^type t = c | d | e | c(int)", "type t = c ^type u = c", "type t = a | b ^type u = d | b(int)", "type t = a type u = b type v = d ^type w = a", "type t = a type u = b ^pub type v = b",
		"^type t = c(x: int, x: int)", "^type t = c(x: int, y: int, int, x: text)", "^type t = c(x: int, y: int, z: int, y: text)", "type t = c(x: int) ^type u = d(x: int) | e(x: int, x: int)",
	} {
		checkText(t, s, api.ErrTwice)
	}
	for _, s := range []string{"type t = t type u = u(t: t) rel t(u: u)", "type t = c(int, int, text)", "type t = c(x: int, int, y: int, int) | d(x: int, y: int) type u = e(x: int)", "type t = c type tt = cc(x: int, xx: int)"} {
		checkText(t, s, api.OK)
	}
}

// TestP10_1PredefinedNames has types with names that are predefined.
func TestP10_1PredefinedNames(t *testing.T) {
	for _, name := range []string{"bool", "int", "big", "text", "tuple", "'", "'a", "'int", "''", "'\xff"} {
		for _, params := range [][]string{nil, {"'a"}, {"'a", "'b"}} {
			m, at := marked(t, "type t = c ^type u = d")
			m.Types[1].Name, m.Types[1].Params = name, params
			checkRefused(t, name, m, at, api.ErrTwice)
		}
	}
}

// TestP10_1TypesOfFields has wrong types in fields, at the position of what is declared.
func TestP10_1TypesOfFields(t *testing.T) {
	for s, e := range map[string]api.Errno{
		"^type t = c(nope)":                                      api.ErrName,
		"^type t = c | d(t, t(t)) | e(nope)":                     api.ErrType,
		"^type t = c | d(t, (int, t, (t, nope)))":                api.ErrName,
		"type t = c ^type u('a) = d(list('a)) type list1 = e":    api.ErrName,
		"^type t('a) = c('b)":                                    api.ErrName,
		"type t('a) = c('a) ^type u = d('a)":                     api.ErrName,
		"type t('a) = c('a) ^type u('b) = d(t('a))":              api.ErrName,
		"^type t('aa) = c('a)":                                   api.ErrName,
		"^type t('a) = c | d((int, ('a, 'aa)))":                  api.ErrName,
		"^type t('a, 'b) = c('a, 'b, 'c)":                        api.ErrName,
		"^type t('a) = c(t)":                                     api.ErrType,
		"^type t('a) = c(t('a, 'a))":                             api.ErrType,
		"^type t = c(list(int, int)) type list('a) = nil":        api.ErrType,
		"^type t = c(list) type list('a) = nil":                  api.ErrType,
		"^type t = c((int, list(list))) type list('a) = nil":     api.ErrType,
		"type list('a) = nil ^type t = c(list(t(int)))":          api.ErrType,
		"^type t('a) = c | d(t(('a, 'a)))":                       api.ErrGrow,
		"^type t('a) = c | d(t(t('a)))":                          api.ErrGrow,
		"^type t('a) = c | d(t((int, (int, 'a))))":               api.ErrGrow,
		"^type t('a) = c | d(u(('a, int))) type u('a) = e('a)":   api.ErrGrow,
		"^type t('a) = c | d((int, (u(u('a)), 'a)))type u('a)=e": api.ErrGrow,
		"^type t('a, 'b) = c | d(t(int, ('b, 'b)))":              api.ErrGrow,
		"^type t('a, 'b) = c | d(t('b, t('a, 'b)))":              api.ErrGrow,
		"^type t('a, 'b) = c | d(t(t('a, 'b), 'b))":              api.ErrGrow,
		"^type t('a) = c | d(u(u(u('a)))) type u('a) = e":        api.ErrGrow,
		"^type t('a) = c | d(u(u((int, 'a)))) type u('a) = e":    api.ErrGrow,
		"^rel r(x: nope)":                                        api.ErrName,
		"rel r(x: int) ^pub input s(x: int, y: (int, nope('a)))": api.ErrName,
		"type t('a) = c ^rel r(x: t)":                            api.ErrType,
		"type t = c ^rel r(x: int, y: (t, t('a)))":               api.ErrType,
		"type t('a) = c rel r(x: t('a)) ^input s(x: t(t('a)))":   api.ErrGrow,
		"type t('a) = c rel r(x: 'a) ^rel s(x: t(('a, int)))":    api.ErrGrow,
	} {
		checkText(t, s, e)
	}
	for _, s := range []string{
		"type t = c(u) type u = d | e(t)", "type t('a) = c('a, ('a, 'a), t('a)) | d", "type t('a, 'b) = c(t('b, 'a), t('a, 'a), t(int, 'b)) | d", "type t('a) = c | d(t(int), t((int, text)), t(t(t(int))))",
		"type t('a) = c | d(('a, (t('a), 'a)))", "type t('a) = c | d(u('a, int, (int, u(int, int, int)))) type u('x, 'y, 'z) = e", "rel r(x: 'a, y: 'b, z: ('a, ('c, 'a)))", "type t('a) = c rel r(x: t('b), y: (t('c), t('a))) rel s(x: t(t(int)))", "type t('a) = c(())",
	} {
		checkText(t, s, api.OK)
	}
}

// asField is a module with a type in a field of a type, one with it in a field of a relation, and where it is an error in both.
func asField(x api.Type) (inType, inRel api.Module, at api.Pos) {
	list := api.TypeDef{Name: "list", Params: []string{"'a"}, Cons: []api.ConsDef{{Name: "nil"}}}
	two := api.TypeDef{Name: "two", Params: []string{"'a", "'b"}, Cons: []api.ConsDef{{Name: "two"}}}
	at = api.Pos{Line: 7, Col: 3}
	fields := []api.FieldDef{{Name: "x", Type: typ("int")}, {Name: "y", Type: x}}
	t := api.TypeDef{Name: "t", Pos: at, Params: []string{"'a", "'b"}, Cons: []api.ConsDef{{Name: "c"}, {Name: "d", Fields: fields}}}
	plain := api.TypeDef{Name: "t", Params: []string{"'a", "'b"}, Cons: []api.ConsDef{{Name: "c"}, {Name: "d"}}}
	inType = api.Module{Types: []api.TypeDef{list, t, two}}
	inRel = api.Module{Types: []api.TypeDef{list, plain, two}, Rels: []api.RelDef{{Name: "r"}, {Name: "s", Pos: at, Fields: fields}}}
	return inType, inRel, at
}

func checkField(t *testing.T, x api.Type, want api.Errno) {
	t.Helper()
	inType, inRel, at := asField(x)
	for _, m := range []api.Module{inType, inRel} {
		if want == api.OK {
			made(t, m)
		} else {
			checkRefused(t, shown(x), m, at, want)
		}
	}
}

// TestP10_1FormsOfTypes has each kind of type with each number of Args, alone and in others.
func TestP10_1FormsOfTypes(t *testing.T) {
	args := map[string][]int{"bool": {0}, "int": {0}, "big": {0}, "text": {0}, "'a": {0}, "'b": {0}, "tuple": {0, 2, 3, 4, 5, 6, 7, 8, 9, 10, 11, 12, 13, 14, 15, 16}, "list": {1}, "t": {2}, "two": {2}}
	for name, allowed := range args {
		for n := range 40 {
			want := api.ErrType
			if slices.Contains(allowed, n) {
				want = api.OK
			}
			x := typ(name, times(n, typ("int"))...)
			for _, y := range []api.Type{x, typ("tuple", typ("int"), x), typ("tuple", x, typ("int"), typ("text")), typ("tuple", typ("'a"), typ("tuple", x, typ("'b")))} {
				checkField(t, y, want)
			}
			if name[0] != '\'' {
				checkField(t, typ("list", x), want)
				checkField(t, typ("two", typ("list", x), typ("int")), want)
			}
		}
	}
}

// TestP10_1Depths has types as deep as may be, and one level deeper.
func TestP10_1Depths(t *testing.T) {
	for _, last := range []api.Type{typ("int"), typ("tuple")} {
		checkField(t, nested(64, "list", last), api.OK)
		checkField(t, nested(65, "list", last), api.ErrDeep)
		checkField(t, nestedTuple(64, last), api.OK)
		checkField(t, nestedTuple(65, last), api.ErrDeep)
		checkField(t, typ("two", typ("int"), nested(63, "list", last)), api.OK)
		checkField(t, typ("two", typ("int"), nested(64, "list", last)), api.ErrDeep)
		checkField(t, typ("two", nestedTuple(63, last), typ("int")), api.OK)
		checkField(t, typ("two", nestedTuple(64, last), typ("int")), api.ErrDeep)
		checkField(t, nested(1000, "list", last), api.ErrDeep)
	}
	checkField(t, nestedTuple(64, typ("'a")), api.OK)
	checkField(t, nestedTuple(63, of("list('a)")), api.OK)
	checkField(t, nestedTuple(65, typ("'a")), api.ErrDeep)
	// Where there may be no Args their depth counts, too.
	for _, name := range []string{"int", "'a", "nope", "'nope"} {
		checkField(t, nested(65, name, typ(name)), api.ErrDeep)
	}
}

// TestP10_1Growing has a parameter, and what is more than one, at each depth.
func TestP10_1Growing(t *testing.T) {
	for levels := range 60 {
		around := func(x api.Type) api.Type { return nestedTuple(1+levels, x) }
		for s, e := range map[string]api.Errno{
			"list('a)": api.OK, "two('a, 'b)": api.OK, "two('b, 'b)": api.OK, "two(int, 'b)": api.OK, "two('b, list(int))": api.OK, "t('b, 'a)": api.OK, "two(tuple, 'a)": api.OK, "list(tuple)": api.OK, "tuple(list('a), list('b))": api.OK,
			"list(list('a))": api.ErrGrow, "two('b, list('a))": api.ErrGrow, "two(list('b), 'a)": api.ErrGrow, "list(tuple('a, int))": api.ErrGrow, "list(tuple(int, 'b))": api.ErrGrow, "two(int, tuple('b, 'b))": api.ErrGrow,
			"t(t('a, 'b), 'b)": api.ErrGrow, "tuple(list('a), list(list('b)))": api.ErrGrow, "list(two(int, 'b))": api.ErrGrow, "tuple('a, two(int, list(list('a))))": api.ErrGrow,
		} {
			checkField(t, around(of(s)), e)
		}
	}
	for levels := range 60 {
		around := func(x api.Type) api.Type { return nested(1+levels, "list", x) }
		for s, e := range map[string]api.Errno{"list(int)": api.OK, "two(tuple(int, text), list(big))": api.OK, "list('a)": api.ErrGrow, "two(int, 'b)": api.ErrGrow, "tuple('b, int)": api.ErrGrow} {
			if levels == 0 && (s == "list('a)" || s == "two(int, 'b)" || s == "tuple('b, int)") {
				e = api.OK
			}
			checkField(t, around(of(s)), e)
		}
	}
}

// TestErrorsOfATypeInOrder has several faults in one type: the kind that comes first counts, wherever it is.
func TestErrorsOfATypeInOrder(t *testing.T) {
	deep, name, form, grow := nested(65, "list", typ("int")), typ("nope"), of("list(int, int)"), of("list(list('a))")
	faults := []struct {
		x api.Type
		e api.Errno
	}{
		{deep, api.ErrDeep}, {nested(65, "nope", typ("'nope", typ("int"))), api.ErrDeep}, {nestedTuple(66, of("list(list('a))")), api.ErrDeep},
		{name, api.ErrName}, {typ("'nope"), api.ErrName}, {of("nope(list(list('a)))"), api.ErrName}, {of("list(nope, list(list('a)))"), api.ErrName}, {of("int(text, nope)"), api.ErrName}, {of("'a(nope)"), api.ErrName}, {of("list(list(tuple(nope, 'a)))"), api.ErrName},
		{form, api.ErrType}, {of("tuple(int)"), api.ErrType}, {typ("tuple", times(17, typ("int"))...), api.ErrType}, {of("int(list(list('a)))"), api.ErrType}, {of("'a(int)"), api.ErrType}, {of("'b('a)"), api.ErrType}, {of("two(list(list('a)))"), api.ErrType}, {of("list(list('a('b)))"), api.ErrType}, {of("list(tuple('a))"), api.ErrType},
		{grow, api.ErrGrow}, {of("list(tuple('a, 'b))"), api.ErrGrow},
	}
	for i, f := range faults {
		if f.x.Name != "'nope" { // which may be in a relation
			checkField(t, f.x, f.e)
		}
		for _, g := range faults[i:] {
			inType, _, at := asField(typ("tuple", f.x, g.x))
			checkRefused(t, shown(f.x, g.x), inType, at, f.e)
			inType, _, at = asField(typ("tuple", g.x, f.x))
			checkRefused(t, shown(g.x, f.x), inType, at, f.e)
			inType, _, at = asField(typ("tuple", typ("int"), typ("two", g.x, f.x)))
			checkRefused(t, shown(g.x, f.x), inType, at, f.e)
		}
	}
}

// TestP10_1Inhabited has types of which some have no values.
func TestP10_1Inhabited(t *testing.T) {
	for _, s := range []string{
		"^type t = c(t)", "^type t = c(u) type u = d(t)", "type a = a ^type t = c(u) type u = d(v) type v = e(t) type z = z", "^type t = c(t) | d(t, int) | e((int, t))", "^type t = c(int, t, int)", "^type t('a) = c('a, t('a))", "^type t('a) = c(t(int))",
		"type u = d | e(t) ^type t = c(t)", "type u('a) = d ^type t = c((u(t), t))", "^type t = c(u, v) type u = d(t) | e type v = f(t)", "^type t = c(x: int, y: (int, (text, (bool, t))))", "^type t = c((t, int))", "type v = e(w) | f type w = g ^type t = c(u) type u = d(t, v)",
		"^type t = c(u) type u = d(u) type v = e", "type v = e ^type u = d(u) type t = c(u)", "^type t = c(u, u) type u = d(t) | e(t, u)", "^type t('a) = c(u('a)) type u('a) = d('a, t('a))",
	} {
		checkText(t, s, api.ErrNone)
	}
	for _, s := range []string{
		"type t = c | d(t)", "type t = c(t) | d", "type t = c(u) type u = d(t) | e", "type t = c(u, u) | d(t) type u = e(v, v) type v = f(t) | g(v) | h(int)", "type u('a) = d type t = c(u(t))", "type u('a) = d('a) type t = c(u(t))", "type u('a) = d('a) type t = c(u((t, t)), u(u(t)))",
		"type t('a) = c('a)", "type t = c(())", "type t = c((int, (bool, big, text)))", "type t('a) = c | d(t('a))", "type t = c((u, u)) type u = d((v, v), v) type v = e", "type t('a, 'b) = c(('a, 'b), 'b) | d(t('b, 'a))",
	} {
		checkText(t, s, api.OK)
	}
	m, at := marked(t, "type t = c ^type u = d")
	m.Types[1].Cons = nil
	checkRefused(t, "no constructors", m, at, api.ErrNone)
	m.Types[0].Cons[0].Fields = []api.FieldDef{{Type: typ("u")}}
	checkRefused(t, "no constructors", m, m.Types[0].Pos, api.ErrNone)
}

// TestP10_1Relations has relations, and fields of one, that are there already.
func TestP10_1Relations(t *testing.T) {
	for _, s := range []string{"rel r() ^rel r()", "rel r() input s() ^input r(x: int)", "rel r() rel s() rel q() ^pub rel s()", "^rel r(x: int, x: int)", "rel r(x: int) ^rel s(x: int, y: text, z: 'a, y: text)", "^input r(a: int, b: int, c: int, a: int)"} {
		checkText(t, s, api.ErrTwice)
	}
	m := api.Module{Rels: []api.RelDef{{Name: "r", Fields: times(8, api.FieldDef{Type: typ("int")})}, {Name: "s", Fields: []api.FieldDef{{Type: typ("'")}, {Name: "x", Type: typ("''")}, {Type: typ("'a")}}}}}
	checkDeclared(t, made(t, m), m)
}

// TestP10_1Rules has wrong heads, literals and arguments in rules and nevers.
func TestP10_1Rules(t *testing.T) {
	const declared = "type t('a) = c | d('a, t('a)) type u = e(u) | f input i(x: int) rel z() rel o(x: int) rel p(x: int, y: t(int)) "
	for s, e := range map[string]api.Errno{
		"^nope(1).": api.ErrName, "^nope() :- nope2().": api.ErrName, "^t(1).": api.ErrName, "^c().": api.ErrName, "o(1). ^oo(1).": api.ErrName,
		"^i(1).": api.ErrState, "^i(1, 2).": api.ErrState, "^i() :- nope().": api.ErrState, "^i(nope(1)).": api.ErrState,
		"^z(1).": api.ErrType, "^o().": api.ErrType, "^o(1, 2).": api.ErrType, "^p(1).": api.ErrType, "^p(1, 2, 3).": api.ErrType, "^o(nope, nope).": api.ErrType,
		"o(^nope).": api.ErrName, "o(^nope(X)).": api.ErrName, "p(1, ^nope).": api.ErrName, "p(c, ^t).": api.ErrName, "p((1, (2, ^nope)), 1).": api.ErrName, "o(1 + (2 * -^nope)).": api.ErrName, "o(if c then 1 else ^nope).": api.ErrName, "o((^nope).x).": api.ErrName, "o(len(^nope)).": api.ErrName, "o(max(^nope)).": api.ErrName, "o(count(^d)).": api.ErrType,
		"o(^c(1)).": api.ErrType, "o(^d).": api.ErrType, "o(^d(1)).": api.ErrType, "o(^d(1, 2, 3)).": api.ErrType, "p(d(c, c), ^f(1)).": api.ErrType,
		"o(^d(nope)).": api.ErrType, "o(^nope(nope2)).": api.ErrName, "o(d(^nope, nope2)).": api.ErrName, "o(d(c, ^nope2)).": api.ErrName, "o(d(d(c, ^d), nope)).": api.ErrType, "o(d(e(^e), nope)).": api.ErrType, "o(d(e(e(f)), ^nope(d))).": api.ErrName, "p(e(e(^nope)), d).": api.ErrName, "p(e(1), ^d(nope, nope, nope)).": api.ErrType, "o(e((e(e((1, ^f(1))))))).": api.ErrType, "p(e(e(d(1, (^nope, c)))), d).": api.ErrName,
		"o(1) :- ^nope(1).": api.ErrName, "o(1) :- z(), ^nope().": api.ErrName, "o(1) :- ^not nope(1).": api.ErrName, "o(1) :- ^o(1, 2).": api.ErrType, "o(1) :- ^not o().": api.ErrType, "o(1) :- i(1), not i(2), ^i(1, 2).": api.ErrType, "o(1) :- ^nope(nope).": api.ErrName, "o(1) :- ^o(nope, 1).": api.ErrType, "o(^nope) :- nope(1).": api.ErrName, "o(1) :- ^c().": api.ErrName,
		"o(1) :- o(^nope).": api.ErrName, "o(1) :- not o(^nope).": api.ErrName, "o(1) :- o(_), not p(X, d(c, ^d(c))).": api.ErrType, "o(1) :- p((1, ^c(1)), nope).": api.ErrType, "o(1) :- X = ^nope, nope(1).": api.ErrName, "o(1) :- X = d(1, ^nope).": api.ErrName, "o(1) :- 1 + ^nope == 2.": api.ErrName, "o(1) :- (^nope).": api.ErrName, "o(1) :- not (^d(1)).": api.ErrType,
		"o(1) :- z(). o(2) :- ^nope().": api.ErrName, "o(^nope). nope(1).": api.ErrName, "o(1) :- ^nope(). i(1).": api.ErrName, "o(1) :- o(^nope). i(1).": api.ErrName,
		"never n :- ^nope(1).": api.ErrName, "never n :- z(), not i(1), ^not nope(1).": api.ErrName, "never n :- ^i().": api.ErrType, "never n :- i(1), X = d(c, ^nope).": api.ErrName, "never n :- i(1). never n :- i(^d).": api.ErrType, "never n :- nope(1). ^nope(2).": api.ErrName, "never n :- nope(1). o(1) :- o(^nope).": api.ErrName, "never n :- ^nope(1). never n :- nope(2).": api.ErrName,
	} {
		checkText(t, declared+s, e)
	}
	for _, s := range []string{
		"", "z(). z() :- z(), z(), not z().", "o(X).", "o(max(d(X, c))). o(count(e(f))). p(sum(1), min(c)).", "p(1, \"a\") :- p(1b, 1), X = 1 + true, 2, not o(c).", "o(1) :- i(d(d(_, e(f)), (c, (c, f)))).", "never n :- i(f). never n :- o(X), X.", "o((X.nope).nope2).",
	} {
		checkText(t, declared+s, api.OK)
	}
}

// TestP10_1Aggregates has as many Aggs as Args, whatever they are, and more, and fewer.
func TestP10_1Aggregates(t *testing.T) {
	for n := range 5 {
		for fields := range 5 {
			for args := range 5 {
				want := api.OK
				if args != n {
					want = api.ErrForm
				} else if args != fields {
					want = api.ErrType
				}
				at := api.Pos{Line: 3, Col: 4}
				m := api.Module{Rels: []api.RelDef{{Name: "r", Fields: times(fields, api.FieldDef{Type: typ("int")})}}, Rules: []api.Rule{{Rel: "r", Pos: at, Args: make([]api.Expr, args), Aggs: times(n, "nope")}}}
				if want == api.OK {
					made(t, m)
				} else {
					checkRefused(t, "Aggs", m, at, want)
				}
				m.Rels[0].Input = true
				checkRefused(t, "an input", m, at, api.ErrState)
				m.Rules[0].Rel = "nope"
				checkRefused(t, "no relation", m, at, api.ErrName)
			}
		}
	}
}

// TestP10_1AnyKinds has literals and expressions of kinds that there are, and of others, all with arguments.
func TestP10_1AnyKinds(t *testing.T) {
	at, inner := api.Pos{Line: 2, Col: 5}, api.Pos{Line: 3, Col: 6}
	for kind := range 256 {
		k := uint8(kind)
		wrong := api.Expr{Kind: api.Make, Name: "nope", Pos: inner}
		for _, args := range [][]api.Expr{{wrong}, {{Kind: api.Make, Name: "c"}, wrong}, {{Kind: k, Name: "c0", Pos: at, Args: []api.Expr{{}, {}, wrong}}}} {
			wanted, e := inner, api.ErrName
			if k == api.Make && len(args) == 1 && args[0].Pos == at {
				wanted = at
			}
			m := api.Module{Types: []api.TypeDef{{Name: "t", Cons: []api.ConsDef{{Name: "c"}}}}, Rels: []api.RelDef{{Name: "r", Fields: times(len(args), api.FieldDef{Type: typ("int")})}}}
			m.Rules = []api.Rule{{Rel: "r", Args: args, Aggs: times(len(args), "")}}
			checkRefused(t, "an argument of a head", m, wanted, e)
			m.Rules = nil
			m.Nevers = []api.Never{{Body: []api.Literal{{Kind: k, Rel: "r", Pos: at, Args: args}}}}
			checkRefused(t, "an argument of a literal", m, wanted, e)
			m.Nevers[0].Body[0].Rel = "nope"
			if k == api.Atom || k == api.Not {
				wanted = at
			}
			checkRefused(t, "a literal", m, wanted, e)
		}
		m := api.Module{Nevers: []api.Never{{Body: []api.Literal{{Kind: k, Rel: "nope", Pos: at, Args: []api.Expr{{Kind: api.Lit, Name: "nope", Value: cons("nope")}}}}}}}
		if k == api.Atom || k == api.Not {
			checkRefused(t, "a literal", m, at, api.ErrName)
		} else {
			made(t, m)
		}
	}
}

// TestErrorsOfRow has each error, and that which comes first.
func TestErrorsOfRow(t *testing.T) {
	var none *decl.Table
	x := tableOf(t, "type t('a) = c | d('a) rel z() rel r(x: int) rel s(x: int, y: t(text)) rel g(x: 'a) rel h(x: int, y: t('a))")
	for _, rel := range []string{"r", "", "nope"} {
		for _, l := range [][]api.Value{nil, vals("1"), {{}}} {
			if e := none.Row(rel, l); e != api.ErrName {
				t.Errorf("nil: Row(%s): %v", rel, e)
			}
		}
	}
	for _, c := range []struct {
		rel string
		l   []api.Value
		e   api.Errno
	}{
		{"", nil, api.ErrName}, {"nope", vals("1"), api.ErrName}, {"t", vals("c"), api.ErrName}, {"c", nil, api.ErrName}, {"nope", []api.Value{{}}, api.ErrName}, {"m", nil, api.ErrName},
		{"z", nil, api.OK}, {"z", []api.Value{}, api.OK}, {"z", vals("1"), api.ErrType}, {"z", vals("()"), api.ErrType},
		{"r", vals("1"), api.OK}, {"r", nil, api.ErrType}, {"r", vals("1", "2"), api.ErrType}, {"r", vals("\"1\""), api.ErrType}, {"r", vals("1b"), api.ErrType}, {"r", vals("c"), api.ErrType}, {"r", []api.Value{{}}, api.ErrType}, {"r", []api.Value{{Kind: api.Int, S: "1"}}, api.ErrType},
		{"s", vals("1", "c"), api.OK}, {"s", vals("1", "d(\"a\")"), api.OK}, {"s", vals("1", "d(1)"), api.ErrType}, {"s", vals("1b", "c"), api.ErrType}, {"s", vals("c", "1"), api.ErrType}, {"s", vals("1"), api.ErrType}, {"s", vals("1", "c", "c"), api.ErrType}, {"s", vals("(1, c)"), api.ErrType}, {"s", []api.Value{num(1), cons("c", num(1))}, api.ErrType},
		{"g", vals("1"), api.ErrType}, {"g", vals("c"), api.ErrType}, {"g", nil, api.ErrType}, {"h", vals("1", "c"), api.ErrType}, {"h", vals("1", "d(1)"), api.ErrType},
	} {
		if e := x.Row(c.rel, c.l); e != c.e {
			t.Errorf("Row(%s) of %d: %v, not %v", c.rel, len(c.l), e, c.e)
		}
	}
}
