package cover_test

import (
	"strconv"
	"testing"

	"corollary/api"
	"corollary/cover"
)

// TestP12_2NoValues has types that no value has, though they are inhabited as chapter 10 says: each list of rows is exhaustive, and
// all of them are redundant.
func TestP12_2NoValues(t *testing.T) {
	x := declaredTable(t)
	for _, xs := range []string{"void", "box(void)", "box(box(void))", "tuple(int, void)", "tuple(void, int)", "tuple(int, tuple(bool, box(void)))", "tree(void), void", "same(void)", "either(void, void), box(void)", "void, int", "int, void, int", "int, int, void"} {
		checkRows(t, x, types(xs), nil, true)
		anyRow := times(len(types(xs)), anything())
		checkRows(t, x, types(xs), [][]api.Expr{anyRow, anyRow}, true, 0, 1)
	}
	checkCovers(t, x, "void", "void(_); void(box(_)); _; void(box(void(X)))", 0, 1, 2, 3)
	checkCovers(t, x, "tuple(int, void)", "(1, _); (2, void(_))", 0, 1)
	checkCovers(t, x, "int, void", "1, _; 2, void(_)", 0, 1)
	checkCovers(t, x, "void, int", "_, 1; void(_), 2; _, _", 0, 1, 2)
}

// TestP12_2ConstructorsWithoutValues has constructors that no value has: nothing is missed where one is, and what has one is redundant.
func TestP12_2ConstructorsWithoutValues(t *testing.T) {
	x := declaredTable(t)
	checkCovers(t, x, "opt(void)", "none; some(_); _", 1, 2)
	checkMisses(t, x, "opt(void)", "some(_)", 0)
	checkCovers(t, x, "opt(void)", "some(_); some(void(_)); none", 0, 1)
	checkCovers(t, x, "opt(void)", "_; none", 1)
	checkCovers(t, x, "list(void)", "nil")
	checkCovers(t, x, "list(void)", "cons(_, _); nil; cons(_, nil); _", 0, 2, 3)
	checkMisses(t, x, "list(list(void))", "nil; cons(nil, nil); cons(cons(_, _), _)", 2)
	checkCovers(t, x, "list(list(void))", "nil; cons(nil, nil); cons(_, cons(_, _)); cons(_, _)", 3)
	checkCovers(t, x, "list(box(void)), bool", "_, true; nil, false; cons(_, _), _", 2)
	checkCovers(t, x, "either(void, bool)", "right(true); neither; right(false); left(_)", 3)
	checkCovers(t, x, "either(bool, void)", "left(true); neither; left(false)")
	checkMisses(t, x, "either(bool, void)", "left(true); neither; right(_)", 2)
	checkCovers(t, x, "either(void, box(void))", "neither")
	checkCovers(t, x, "alt(int, void)", "done")
	checkCovers(t, x, "alt(void, int)", "done; step(_, done); step(_, step(_, _))", 2)
	checkMisses(t, x, "alt(void, int)", "done; step(1, done)")
	checkCovers(t, x, "tree(void)", "leaf; node(_, _, _); node(leaf, _, leaf)", 1, 2)
	checkCovers(t, x, "ghost(void)", "ghost; spook(_)")
	checkMisses(t, x, "ghost(void)", "ghost; spook(ghost)")
	checkCovers(t, x, "opt(tuple(int, opt(void)))", "none; some((_, none)); some((1, _)); some((_, some(_)))", 2, 3)
	checkCovers(t, x, "tuple(opt(void), bool)", "(none, true); (none, false); (some(_), true); (_, true)", 2, 3)
}

// TestP12_2ValuesByMeansOfArguments has recursive types of which it depends on their Args whether they have values.
func TestP12_2ValuesByMeansOfArguments(t *testing.T) {
	x := tableOf(t, moduleOf(t, `module m
		type p('a, 'b, 'c, 'd) = end('a, 'b) | turn(p('b, 'c, 'd, 'a)) | part(p('a, 'a, 'c, 'c))
		type wrap('a) = wrap('a)
		type void = void(wrap(void))
		type loop('a) = loop(wrap('a), again('a)) | out('a, 'a)
		type again('a) = again(loop('a))
		type deep = deep(wrap(wrap(wrap(deep)))) | base(wrap(wrap(void))) | ground(wrap(deep2))
		type deep2 = deep2(loop(deep)) | bottom(int)
		type mix('a, 'b) = first(mix('b, 'a), 'a) | second(mix('a, 'a), 'b) | third('a, 'b)
	`))
	checkCovers(t, x, "loop(void)", "loop(_, _); out(_, _)", 0, 1)
	checkCovers(t, x, "loop(bool)", "loop(_, _); out(true, _); out(false, _); out(_, true)", 3)
	checkCovers(t, x, "again(void)", "")
	checkMisses(t, x, "again(int)", "again(loop(_, _))")
	checkCovers(t, x, "deep", "deep(_); ground(_); base(_)", 2)
	checkMisses(t, x, "deep", "deep(_); base(_)", 1)
	checkCovers(t, x, "p(void, void, void, void)", "")
	checkCovers(t, x, "p(int, void, void, void)", "turn(_); part(_)")
	checkCovers(t, x, "p(int, bool, void, void)", "turn(_); part(_); end(_, true); end(_, _)")
	checkCovers(t, x, "p(int, void, void, bool)", "turn(_); end(_, _); part(_)", 1)
	checkCovers(t, x, "p(void, int, void, void)", "turn(_); end(_, _); part(_)", 1, 2)
	checkCovers(t, x, "p(void, int, void, int)", "turn(_); end(_, _); part(_)", 1, 2)
	checkCovers(t, x, "p(void, int, int, void)", "turn(_); part(_)")
	checkCovers(t, x, "p(void, void, int, void)", "turn(_); part(_)")
	checkCovers(t, x, "mix(int, void)", "")
	checkCovers(t, x, "mix(void, int)", "")
	checkCovers(t, x, "mix(bool, bool)", "first(_, _); second(_, true); third(_, _); second(_, false)")
}

// TestP12_2ValuesFoundLate has types of which each has values by means of the next one, in either order of their declarations.
func TestP12_2ValuesFoundLate(t *testing.T) {
	const n = 300
	name := func(i int) string { return "t" + strconv.Itoa(i) }
	for _, isLast := range []bool{false, true} {
		var m api.Module
		for i := range n {
			next := typ(name((i + 1) % n))
			d := typeDef(name(i), api.ConsDef{Name: "c" + strconv.Itoa(i), Fields: []api.FieldDef{field(typ("wrap", next)), field(typ("int"))}})
			if isLast && i == n-1 {
				d.Cons = append(d.Cons, api.ConsDef{Name: "end"})
			}
			m.Types = append(m.Types, d)
		}
		m.Types = append(m.Types, api.TypeDef{Name: "wrap", Params: []string{"'a"}, Cons: []api.ConsDef{{Name: "wrap", Fields: []api.FieldDef{field(typ("'a"))}}}})
		x := tableOf(t, m)
		for _, i := range []int{0, 1, n / 2, n - 2, n - 1} {
			checkRows(t, x, []api.Type{typ(name(i))}, nil, !isLast)
			if p := mk("c"+strconv.Itoa(i), anything(), lit(num(1))); isLast {
				checkRows(t, x, []api.Type{typ(name(i))}, [][]api.Expr{{p}, {p}}, false, 1)
			} else {
				checkRows(t, x, []api.Type{typ(name(i))}, [][]api.Expr{{p}, {anything()}}, true, 0, 1)
			}
		}
	}
}

// TestP12_2ParametersTwice has a parameter twice among those of a type, and one without ' : the first one counts, and that one does not.
func TestP12_2ParametersTwice(t *testing.T) {
	wrap := api.TypeDef{Name: "wrap", Params: []string{"'a"}, Cons: []api.ConsDef{{Name: "wrap", Fields: []api.FieldDef{field(typ("'a"))}}}}
	void := typeDef("void", api.ConsDef{Name: "void", Fields: []api.FieldDef{field(typ("wrap", typ("void")))}})
	pair := api.TypeDef{Name: "pair", Params: []string{"'b", "'a", "'a", "'b", "void", "bool"}, Cons: []api.ConsDef{{Name: "a", Fields: []api.FieldDef{field(typ("'a"))}}, {Name: "b", Fields: []api.FieldDef{field(typ("'b"))}}, {Name: "c", Fields: []api.FieldDef{field(typ("void"))}}, {Name: "d", Fields: []api.FieldDef{field(typ("bool"))}}}}
	x := tableOf(t, api.Module{Types: []api.TypeDef{wrap, void, pair}})
	checkCovers(t, x, "pair(void, int, void, int, int, void)", "a(_); d(true); b(_); c(_); d(false)", 2, 3)
	checkCovers(t, x, "pair(int, void, int, void, int, int)", "a(_); d(true); b(_); c(_); d(_)", 0, 3)
	checkCovers(t, x, "pair(void, void, int, int, int, int)", "d(true); d(false)")
}

// TestP12_1FitsWithoutValues has patterns of types without values: they have them.
func TestP12_1FitsWithoutValues(t *testing.T) {
	x := declaredTable(t)
	for _, p := range []string{"_", "X", "void(_)", "void(box(void(_)))"} {
		if !cover.Fits(x, pat(p), typ("void")) {
			t.Errorf("%s has not the type void", p)
		}
	}
}
