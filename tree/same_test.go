package tree_test

import (
	"reflect"
	"strconv"
	"testing"

	"corollary/api"
	"corollary/tree"
)

// sample has every kind of part, each in memory of its own. It can be printed.
func sample() api.Module {
	x, y := variable("X"), variable("Y")
	whole, list := typ("int"), typ("list", typ("'a"))
	return copied(api.Module{
		Name:    "m",
		Imports: []api.Import{{Name: "a"}, {Name: "b"}},
		Types: []api.TypeDef{
			{Pub: true, Name: "list", Params: []string{"'a", "'b"}, Cons: []api.ConsDef{consDef("nil"), consDef("cons", unnamed(typ("'a")), named("tail", list), unnamed(typ("tuple", whole, typ("tuple"), typ("m.t", whole, typ("text")))))}},
			{Name: "t", Cons: []api.ConsDef{consDef("c")}},
		},
		Rels: []api.RelDef{{Pub: true, Input: true, Name: "e", Fields: []api.FieldDef{named("f", whole), named("g", typ("list", whole))}}, {Name: "p"}, {Pub: true, Name: "q"}, {Input: true, Name: "r"}},
		Rules: []api.Rule{
			{Rel: "p", Args: exprs(x, call("+", x, num(1)), cons("m.c", long("1"), text("a"))), Aggs: []string{"", "sum", "count"}, Body: []api.Literal{
				atom("e", x, anything(), tup(num(1), cons("c", y, truth(1)))), not("m.q", tup()), bind("Z", choice(x, y, field("f", x))), cond(call("not", field("g", y))),
			}},
			rule("m.p", nil),
		},
		Nevers: []api.Never{never("n", atom("p"), cond(call("==", x, call("neg", num(-3))))), never("k", not("p", x))},
	})
}

// changed calls a function with a name for each way to change one part of what a value leads to, while it is changed.
func changed(x reflect.Value, what string, call func(what string)) {
	set := func(to reflect.Value) {
		before := copyOf(x)
		if reflect.DeepEqual(to.Interface(), before.Interface()) {
			return
		}
		x.Set(to)
		call(what)
		x.Set(before)
	}
	switch x.Kind() {
	case reflect.Bool:
		set(reflect.ValueOf(!x.Bool()))
	case reflect.Int, reflect.Int64, reflect.Uint8:
		for _, n := range []int{0, 1, 2, 3, 4, 5, 6, 7, 8, 9, 200} {
			set(reflect.ValueOf(n).Convert(x.Type()))
		}
	case reflect.String:
		for _, s := range []string{"", "a", "b", "X", "W", "m.b", "'c", "count", "min", "+", "*", "not", "len", x.String() + "1"} {
			set(reflect.ValueOf(s))
		}
	case reflect.Struct:
		for i := range x.NumField() {
			changed(x.Field(i), what+"."+x.Type().Field(i).Name, call)
		}
	case reflect.Slice:
		changedList(x, what, set)
		for i := range x.Len() {
			changed(x.Index(i), what+"["+strconv.Itoa(i)+"]", call)
		}
	}
}

// changedList changes a list: one less, one more, two exchanged.
func changedList(x reflect.Value, what string, set func(to reflect.Value)) {
	n := x.Len()
	fresh := func(from, to int) reflect.Value { return copyOf(x.Slice3(from, to, to)) }
	for i := range n {
		set(reflect.AppendSlice(fresh(0, i), x.Slice(i+1, n)))
		set(reflect.AppendSlice(fresh(0, i+1), x.Slice(i, n)))
		if i > 0 {
			l := fresh(0, n)
			l.Index(i).Set(x.Index(i - 1))
			l.Index(i - 1).Set(x.Index(i))
			set(l)
		}
	}
	set(reflect.Append(fresh(0, n), reflect.Zero(x.Type().Elem())))
	set(reflect.Zero(x.Type()))
}

// TestP6_2OnePart changes one part of a module after another; P6.3 holds for all of these, too.
func TestP6_2OnePart(t *testing.T) {
	m, untouched := sample(), sample()
	want, e := tree.Print(m)
	if e != api.OK {
		t.Fatal(e)
	}
	positions, parts, printed := 0, 0, 0
	changed(reflect.ValueOf(&m).Elem(), "m", func(what string) {
		same := alike(m, untouched)
		if tree.Same(m, untouched) != same || tree.Same(untouched, m) != same || !tree.Same(m, copied(m)) {
			t.Errorf("%s: Same is not %t", what, same)
		}
		s, e := tree.Print(m)
		if same && (e != api.OK || s != want) || !same && e == api.OK && s == want || e != api.OK && s != "" || e != tree.Check(m) {
			t.Errorf("%s: %v\n%s", what, e, s)
		}
		switch {
		case same:
			positions++
		case e == api.OK:
			printed++
		}
		parts++
	})
	if !reflect.DeepEqual(m, untouched) || positions < 300 || printed < 300 || parts < 3000 {
		t.Errorf("%d positions, %d printed, %d in all", positions, printed, parts)
	}
}

func TestP6_2EmptyLists(t *testing.T) {
	m, full := sample(), sample()
	fillEmpty(reflect.ValueOf(&full).Elem())
	if reflect.DeepEqual(m, full) || !tree.Same(m, full) || !tree.Same(full, m) {
		t.Error("empty lists differ from none")
	}
	a, e := tree.Print(m)
	b, f := tree.Print(full)
	if a != b || e != api.OK || f != api.OK {
		t.Errorf("%v, %v\n%s\n%s", e, f, a, b)
	}
	none, empty := api.Module{Name: "m"}, api.Module{Name: "m"}
	fillEmpty(reflect.ValueOf(&empty).Elem())
	if !tree.Same(none, empty) || !tree.Same(api.Module{}, api.Module{Types: []api.TypeDef{}}) {
		t.Error("empty lists differ from none")
	}
}

// fillEmpty makes an empty list of each one that is nil, with something behind its end.
func fillEmpty(x reflect.Value) {
	switch x.Kind() {
	case reflect.Struct:
		for i := range x.NumField() {
			fillEmpty(x.Field(i))
		}
	case reflect.Slice:
		if x.IsNil() {
			x.Set(reflect.MakeSlice(x.Type(), 0, 2))
		}
		for i := range x.Len() {
			fillEmpty(x.Index(i))
		}
	}
}

func TestP6_2Positions(t *testing.T) {
	m, moved := sample(), sample()
	n := 0
	movePositions(reflect.ValueOf(&moved).Elem(), &n)
	if n < 40 || reflect.DeepEqual(m, moved) || !tree.Same(m, moved) || !tree.Same(moved, m) {
		t.Errorf("%d positions", n)
	}
	a, _ := tree.Print(m)
	if b, e := tree.Print(moved); a != b || e != api.OK {
		t.Errorf("%v\n%s", e, b)
	}
}

// movePositions makes all positions different.
func movePositions(x reflect.Value, n *int) {
	switch {
	case x.Type() == reflect.TypeFor[api.Pos]():
		*n++
		x.Set(reflect.ValueOf(api.Pos{Line: *n, Col: -*n}))
	case x.Kind() == reflect.Struct:
		for i := range x.NumField() {
			movePositions(x.Field(i), n)
		}
	case x.Kind() == reflect.Slice:
		for i := range x.Len() {
			movePositions(x.Index(i), n)
		}
	}
}

// TestP6_2WhatCannotBePrinted has modules that differ in what is wrong with them alone.
func TestP6_2WhatCannotBePrinted(t *testing.T) {
	ofExpr := func(e api.Expr) api.Module { return ofRule(rule("p", exprs(e))) }
	pair := []api.Value{{Kind: api.Int}, {Kind: api.Int, N: 1}}
	l := []api.Module{
		{}, {Name: "M"}, {Name: "M "}, ofRule(rule("", nil)), ofRule(api.Rule{Aggs: []string{""}}), ofRule(api.Rule{Aggs: []string{"", ""}}), ofRule(api.Rule{Args: exprs(api.Expr{})}), ofRule(api.Rule{Body: []api.Literal{{}}}), ofRule(api.Rule{Body: []api.Literal{{Kind: 9}}}), ofRule(api.Rule{Body: []api.Literal{{Rel: "X"}}}),
		ofExpr(api.Expr{Kind: 9}), ofExpr(api.Expr{Kind: 9, Name: "a"}), ofExpr(api.Expr{Kind: 9, Args: exprs(api.Expr{})}), ofExpr(api.Expr{Kind: 9, Args: exprs(api.Expr{Kind: 9})}), ofExpr(lit(api.Value{})), ofExpr(lit(api.Value{N: 1})), ofExpr(lit(api.Value{S: "a"})), ofExpr(lit(api.Value{Kind: 9})), ofExpr(lit(api.Value{L: pair})), ofExpr(lit(api.Value{L: pair[:1]})), ofExpr(lit(api.Value{L: pair[1:]})), ofExpr(lit(api.Value{Kind: api.Tuple, L: pair})), ofExpr(lit(api.Value{Kind: api.Tuple, L: []api.Value{pair[0], {Kind: api.Tuple, L: pair}}})), ofExpr(lit(api.Value{Kind: api.Tuple, L: []api.Value{pair[0], {Kind: api.Tuple, L: pair[:1]}}})),
		ofExpr(api.Expr{Kind: api.Var, Name: "X", Value: pair[0]}), ofExpr(api.Expr{Kind: api.Var, Name: "X", Value: pair[1]}), ofFieldType(typ("")), ofFieldType(typ("int", typ("int"))), ofFieldType(typ("int", typ("int", typ("int")))), ofFieldType(typ("int", typ("int"), typ("int"))), ofExpr(nestedExpr(200, num(1))), ofExpr(nestedExpr(200, num(2))), ofExpr(nestedExpr(201, num(1))), ofFieldType(nestedType(200, typ("int"))), ofFieldType(nestedType(200, typ("big"))), ofFieldType(nestedType(199, typ("int"))),
		{Rules: times(300, rule("p", nil))}, {Rules: times(301, rule("p", nil))}, {Nevers: []api.Never{never("n")}}, {Nevers: []api.Never{never("n"), never("n")}}, {Types: []api.TypeDef{{Name: "t"}}}, {Types: []api.TypeDef{{Name: "t", Cons: []api.ConsDef{{}}}}}, {Types: []api.TypeDef{{Name: "t", Params: []string{"a"}}}}, {Rels: []api.RelDef{{}}}, {Imports: []api.Import{{}}}, {Imports: []api.Import{{}, {}}},
	}
	for i, a := range l {
		if tree.Check(a) == api.OK {
			t.Errorf("%d can be printed", i)
		}
		for k, b := range l {
			if tree.Same(a, copied(b)) != (i == k) {
				t.Errorf("Same(%d, %d): %t", i, k, i != k)
			}
		}
	}
}

// TestP6_2Depth has two that differ at the end of the depth that the document's limits allow.
func TestP6_2Depth(t *testing.T) {
	ofExpr := func(e api.Expr) api.Module { return ofRule(rule("p", exprs(e))) }
	deep := 1<<16 - 4 // in a module, a rule, its arguments
	if !tree.Same(ofExpr(nestedExpr(deep, num(1))), ofExpr(nestedExpr(deep, num(1)))) || tree.Same(ofExpr(nestedExpr(deep, num(1))), ofExpr(nestedExpr(deep, num(2)))) {
		t.Error("expressions")
	}
	if !tree.Same(ofFieldType(nestedType(deep, typ("int"))), ofFieldType(nestedType(deep, typ("int")))) || tree.Same(ofFieldType(nestedType(deep, typ("int"))), ofFieldType(nestedType(deep, typ("big")))) {
		t.Error("types")
	}
}
