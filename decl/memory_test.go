package decl_test

import (
	"cmp"
	"reflect"
	"slices"
	"sync"
	"testing"

	"corollary/api"
	"corollary/decl"
)

// TestR1NoTable has a nil table, and one that New has not made.
func TestR1NoTable(t *testing.T) {
	var none *decl.Table
	for _, name := range []string{"", "t", "int", "'a"} {
		if c, there := none.Cons(name); there || !same(c, decl.Cons{}) {
			t.Errorf("Cons: %+v, %v", c, there)
		}
		if d, there := none.Type(name); there || !same(d, api.TypeDef{}) {
			t.Errorf("Type: %+v, %v", d, there)
		}
		if d, there := none.Rel(name); there || !same(d, api.RelDef{}) {
			t.Errorf("Rel: %+v, %v", d, there)
		}
		for _, x := range []*decl.Table{none, {}, new(decl.Table)} {
			x.Cons(name)
			x.Type(name)
			x.Rel(name)
			for _, v := range []api.Value{{}, num(1), cons(name), tuple(num(1), cons("c")), endlessValue()} {
				for _, a := range []api.Type{{}, typ(name), typ("tuple", typ("int"), typ(name)), endlessType("tuple")} {
					x.Well(a)
					x.Is(v, a)
				}
				x.Row(name, []api.Value{v})
			}
			x.Row(name, nil)
		}
	}
}

// endlessType contains itself, twice.
func endlessType(name string) api.Type {
	l := make([]api.Type, 2)
	l[0] = typ(name, l...)
	l[1] = l[0]
	return l[0]
}

// doubledType has so many levels, each of which has the next one twice, in the same memory.
func doubledType(levels int, last string) api.Type {
	x := typ(last)
	for range levels - 1 {
		x = typ("tuple", x, x)
	}
	return x
}

func endlessValue() api.Value {
	l := make([]api.Value, 2)
	l[0] = tuple(l...)
	l[1] = l[0]
	return l[0]
}

func endlessExpr(kind uint8, name string) api.Expr {
	l := make([]api.Expr, 2)
	l[0] = api.Expr{Kind: kind, Pos: api.Pos{Line: 7, Col: 8}, Name: name, Args: l}
	l[1] = l[0]
	return l[0]
}

func doubledExpr(levels int) api.Expr {
	x := api.Expr{Kind: api.Make, Name: "c"}
	for range levels - 1 {
		x = api.Expr{Kind: api.Make, Name: "d", Args: []api.Expr{x, x}}
	}
	return x
}

// TestR1TypesWithoutEnd has types that contain themselves in each call.
func TestR1TypesWithoutEnd(t *testing.T) {
	x := tableOf(t, several)
	for _, wrong := range []api.Type{endlessType("tuple"), endlessType("list"), endlessType("'a"), endlessType(""), endlessType("nope"), nested(1000000, "list", typ("int"))} {
		for _, y := range []api.Type{wrong, typ("tuple", typ("int"), wrong), typ("list", wrong)} {
			checkNoEnd(t, x, y)
		}
		decl.Put(wrong, []string{"'a"}, []api.Type{wrong})
	}
}

// TestR1TypesOfTooMuch has types that have an end, but take the same memory many times.
func TestR1TypesOfTooMuch(t *testing.T) {
	checkNoEnd(t, tableOf(t, several), doubledType(64, "int"))
	// Each has not too much, but what is to be returned has.
	decl.Put(doubledType(24, "'a"), []string{"'a"}, []api.Type{doubledType(24, "int")})
	checkPutOf(t, doubledType(9, "'a"), []string{"'a"}, []api.Type{doubledType(9, "int")}, doubledType(17, "int"))
}

func checkNoEnd(t *testing.T, x *decl.Table, wrong api.Type) {
	t.Helper()
	if x.Well(wrong) || x.Is(num(1), wrong) || x.Is(endlessValue(), wrong) {
		t.Errorf("%s is well-formed", shown(wrong))
	}
	inType, inRel, at := asField(wrong)
	checkRefused(t, "a type without an end", inType, at, api.ErrDeep)
	checkRefused(t, "a type without an end", inRel, at, api.ErrDeep)
	decl.Put(wrong, []string{"'b"}, types("int"))
	decl.Put(of("tuple('a, 'b)"), []string{"'b"}, []api.Type{wrong})
	checkPutOf(t, typ("list", typ("'b")), []string{"'a", "'b"}, []api.Type{wrong, typ("int")}, of("list(int)"))
}

func checkPutOf(t *testing.T, x api.Type, params []string, args []api.Type, want api.Type) {
	t.Helper()
	if got := decl.Put(x, params, args); !sameType(got, want) {
		t.Errorf("Put(%s): %s", shown(x), shown(got))
	}
}

// TestR1ManyTypesWithoutEnd has a type of which there is nearly too much in many fields.
func TestR1ManyTypesWithoutEnd(t *testing.T) {
	fields := times(1<<16, api.FieldDef{Type: doubledType(20, "int")})
	m := api.Module{Types: []api.TypeDef{{Name: "t", Cons: []api.ConsDef{{Name: "c", Fields: fields}}}}}
	if x, _, e := decl.New(m); x != nil || e == api.OK {
		t.Error("they have a table")
	}
}

// TestR1ValuesWithoutEnd has values that contain themselves, and values of which there is too much.
func TestR1ValuesWithoutEnd(t *testing.T) {
	x := tableOf(t, "type t = c | d(t, t) rel r(x: t)")
	trees := cons("c")
	for range 63 {
		trees = cons("d", trees, trees)
	}
	for _, v := range []api.Value{endlessValue(), tuple(num(1), endlessValue()), cons("d", endlessValue(), cons("c")), trees} {
		for _, a := range types("t, tuple(int, int)") {
			if x.Is(v, a) {
				t.Errorf("%s has a value without an end", shown(a))
			}
		}
		if x.Row("r", []api.Value{v}) != api.ErrType {
			t.Error("it is in a row")
		}
	}
}

// TestR1ExpressionsWithoutEnd has expressions that contain themselves, and too many, at each place: what is found before the end counts.
func TestR1ExpressionsWithoutEnd(t *testing.T) {
	base := moduleOf(t, "type t = c | d(t, t) rel r(x: t)")
	for kind := range 10 {
		for name, want := range map[string]api.Errno{"d": api.ErrDeep, "c": api.ErrType, "nope": api.ErrName} {
			if kind != int(api.Make) {
				want = api.ErrDeep
			}
			x := endlessExpr(uint8(kind), name)
			m := base
			m.Rules = []api.Rule{{Rel: "r", Args: []api.Expr{x}, Aggs: []string{""}}}
			checkRefused(t, "an expression without an end", m, x.Pos, want)
			m.Rules = []api.Rule{{Rel: "r", Args: make([]api.Expr, 1), Aggs: []string{""}, Body: []api.Literal{{Kind: api.Cond, Args: []api.Expr{x}}}}}
			checkRefused(t, "an expression without an end", m, x.Pos, want)
			for k := range 6 {
				m.Rules, m.Nevers = nil, []api.Never{{Body: []api.Literal{{Kind: uint8(k), Rel: "r", Args: []api.Expr{x}}}}}
				checkRefused(t, "an expression without an end", m, x.Pos, want)
			}
		}
	}
	m := base
	m.Rules = []api.Rule{{Rel: "r", Args: []api.Expr{doubledExpr(64)}, Aggs: []string{""}}}
	checkRefused(t, "too many expressions", m, api.Pos{}, api.ErrDeep)
	deep := api.Expr{Kind: api.Make, Name: "c"}
	for range 65535 {
		deep = api.Expr{Kind: api.Make, Name: "d", Args: []api.Expr{deep, {Kind: api.Any}}}
	}
	m.Rules[0].Args[0] = deep
	made(t, m)
	at := api.Pos{Line: 5, Col: 6}
	m.Rules[0].Body = []api.Literal{{Kind: api.Not, Rel: "nope", Pos: at}}
	checkRefused(t, "a literal behind a deep expression", m, at, api.ErrName)
}

// answers are what all calls return for a module, some types and values.
func answers(m api.Module, l []api.Type, values []api.Value) []any {
	x, at, e := decl.New(m)
	all := []any{at, e}
	for _, a := range l {
		all = append(all, x.Well(a), decl.Put(a, []string{"'b", "'a", "int"}, l))
		for _, v := range values {
			all = append(all, x.Is(v, a))
		}
	}
	for _, d := range m.Types {
		got, there := x.Type(d.Name)
		all = append(all, got, there)
		for _, c := range d.Cons {
			got, there := x.Cons(c.Name)
			all = append(all, got, there)
		}
	}
	for _, d := range m.Rels {
		got, there := x.Rel(d.Name)
		all = append(all, got, there, x.Row(d.Name, values), x.Row(d.Name, values[:min(len(values), len(d.Fields))]))
	}
	return all
}

func sameAnswers(a, b []any) bool {
	return slices.EqualFunc(a, b, func(x, y any) bool { return reflect.DeepEqual(plainAny(x), plainAny(y)) })
}

func plainAny(x any) any {
	switch x := x.(type) {
	case api.Type:
		return plain(x)
	case api.TypeDef:
		return plain(x)
	case api.RelDef:
		return plain(x)
	case decl.Cons:
		return plain(x)
	}
	return x
}

// given is what is handed to the calls.
type given struct {
	m      api.Module
	types  []api.Type
	values []api.Value
}

func (x given) answers() []any { return answers(x.m, x.types, x.values) }

// mixed are modules that have tables, and some that have none, with types and values.
func mixed(g *generator, n int) []given {
	var all []given
	for range n {
		m := g.accepted()
		l := append(g.closedTypes(m), g.typed(m, []string{"'a", "'b"}, 4), g.typed(m, []string{"'a"}, 4))
		values := g.someValues(m, l)
		spoiled := copied(m)
		g.spoil(&spoiled, 1)
		all = append(all, given{m, l, values}, given{spoiled, l[3:], values[:5]})
	}
	return all
}

// lists are all lists in something, each with what is behind its end.
func lists(x reflect.Value) []reflect.Value {
	var l []reflect.Value
	switch x.Kind() {
	case reflect.Interface:
		return lists(x.Elem())
	case reflect.Struct:
		for i := range x.NumField() {
			l = append(l, lists(x.Field(i))...)
		}
	case reflect.Slice:
		whole := x.Slice(0, x.Cap())
		if x.Cap() > 0 {
			l = append(l, whole)
		}
		for i := range whole.Len() {
			l = append(l, lists(whole.Index(i))...)
		}
	}
	return l
}

func listsIn(all ...any) []reflect.Value {
	var l []reflect.Value
	for _, x := range all {
		l = append(l, lists(reflect.ValueOf(x))...)
	}
	return l
}

// spoilAll overwrites all lists in something, with what is behind their ends.
func spoilAll(all ...any) {
	for _, l := range listsIn(all...) {
		for i := range l.Len() {
			l.Index(i).SetZero()
		}
	}
}

// checkApart requires that no two of some lists share memory.
func checkApart(t *testing.T, l []reflect.Value) {
	t.Helper()
	type part struct{ begin, end uintptr }
	var parts []part
	for _, x := range l {
		parts = append(parts, part{x.Pointer(), x.Pointer() + uintptr(x.Len())*x.Type().Elem().Size()})
	}
	slices.SortFunc(parts, func(a, b part) int { return cmp.Compare(a.begin, b.begin) })
	for i, x := range parts[min(1, len(parts)):] {
		if x.begin < parts[i].end {
			t.Fatalf("%d lists share memory", len(l))
		}
	}
}

// withMore is something in memory of its own, with another thing of the same type behind the end of each list.
func withMore[T any](x T, behind ...any) T {
	x = copied(x)
	var put func(x reflect.Value)
	put = func(x reflect.Value) {
		switch x.Kind() {
		case reflect.Struct:
			for i := range x.NumField() {
				put(x.Field(i))
			}
		case reflect.Slice:
			n := x.Len()
			more := reflect.MakeSlice(x.Type(), n+2, n+2)
			for i := range n {
				put(x.Index(i))
				more.Index(i).Set(x.Index(i))
			}
			for _, other := range behind {
				if reflect.TypeOf(other) == x.Type().Elem() {
					more.Index(n).Set(reflect.ValueOf(other))
				}
			}
			x.Set(more.Slice(0, n))
		}
	}
	put(reflect.ValueOf(&x).Elem())
	return x
}

func (x given) withMore(behind ...any) given {
	return given{withMore(x.m, behind...), withMore(x.types, behind...), withMore(x.values, behind...)}
}

// TestR3NothingIsReadBehindTheEnds has wrong things behind the ends of all lists.
func TestR3NothingIsReadBehindTheEnds(t *testing.T) {
	field := api.FieldDef{Name: "x", Type: typ("nope")}
	for _, x := range mixed(newGenerator(11), 150) {
		got := x.withMore(endlessType("nope"), endlessValue(), endlessExpr(api.Make, "nope"), "nope", field, api.ConsDef{Name: "c0"}, api.TypeDef{Name: "int"}, api.RelDef{Name: "p"}, api.Literal{Kind: api.Atom}, api.Rule{}, api.Never{Body: []api.Literal{{Kind: api.Not}}}).answers()
		if want := x.answers(); !sameAnswers(got, want) {
			t.Errorf("%v, not %v", got, want)
		}
	}
	if got := decl.Put(typ("'a"), []string{"'b", "'a"}[:1], types("int, text")); !sameType(got, typ("'a")) {
		t.Errorf("Put: %s", shown(got))
	}
	if got := decl.Put(typ("'a"), []string{"'b", "'a"}, types("int, text")[:1]); !sameType(got, typ("'a")) {
		t.Errorf("Put: %s", shown(got))
	}
}

// TestR3NothingIsChanged compares all that was handed in, with what is behind the ends of lists, with a copy of it.
func TestR3NothingIsChanged(t *testing.T) {
	for _, x := range mixed(newGenerator(12), 150) {
		x = x.withMore(typ("int"), num(1), "'a")
		before := given{copied(x.m), copied(x.types), copied(x.values)}
		x.answers()
		want := listsIn(before.m, before.types, before.values)
		for i, list := range listsIn(x.m, x.types, x.values) {
			if !reflect.DeepEqual(list.Interface(), want[i].Interface()) {
				t.Fatalf("changed: %v", list)
			}
		}
	}
}

// TestR3NewMemory has what was handed in, and all results, apart from one another, and overwrites all of it: the table remains.
func TestR3NewMemory(t *testing.T) {
	g := newGenerator(13)
	for range 150 {
		m := g.accepted()
		l, untouched := g.closedTypes(m), copied(m)
		values := g.someValues(m, l)
		x := made(t, m)
		var results []any
		for range 2 {
			for _, d := range m.Types {
				got, _ := x.Type(d.Name)
				results = append(results, got)
				for _, c := range d.Cons {
					got, _ := x.Cons(c.Name)
					results = append(results, got)
				}
			}
			for _, d := range m.Rels {
				got, _ := x.Rel(d.Name)
				results = append(results, got)
			}
		}
		checkApart(t, listsIn(append(results, m)...))
		spoilAll(append(results, m)...)
		checkDeclared(t, x, untouched)
		y := made(t, untouched)
		for _, a := range l {
			for _, v := range values {
				if x.Is(v, a) != y.Is(v, a) {
					t.Fatalf("%s, %s", textOf(v), shown(a))
				}
			}
		}
	}
}

// TestR3NewMemoryOfPut has types whose lists share memory, put several times: the result's do not.
func TestR3NewMemoryOfPut(t *testing.T) {
	inner := types("int, tuple(text, big), 'b")
	by := []api.Type{{Name: "t", Args: inner}, {Name: "u", Args: inner[:2]}, {Name: "v", Args: inner[:0]}}
	args := types("'a, 'b, 'c, list('a), 'a, 'd")
	x := api.Type{Name: "w", Args: append(args, api.Type{Name: "w", Args: args}, api.Type{Name: "w", Args: args[:3]}, api.Type{Name: "w", Args: args[:0]})}
	params := []string{"'a", "'b", "'c"}
	want := of("w(t(int,tuple(text,big),'b), u(int,tuple(text,big)), v, list(t(int,tuple(text,big),'b)), t(int,tuple(text,big),'b), 'd)")
	for range 2 {
		got := decl.Put(x, params, by)
		again := decl.Put(x, params, by)
		if !sameTypes(got.Args[:6], want.Args) || !sameTypes(got.Args[6].Args, want.Args) || !sameTypes(got.Args[7].Args, want.Args[:3]) || len(got.Args[8].Args) != 0 || len(got.Args) != 9 {
			t.Errorf("%s", shown(got))
		}
		checkApart(t, listsIn(got, again, decl.Put(typ("'a"), params, by), decl.Put(of("list(int, text)"), nil, nil), inner, args))
		spoilAll(got)
		if sameType(again, got) {
			t.Error("they share memory")
		}
	}
}

// TestR2TheArgumentsAlone calls with other tables in between, and in many goroutines, some of which use one table.
func TestR2TheArgumentsAlone(t *testing.T) {
	all := mixed(newGenerator(14), 40)
	var want [][]any
	for _, x := range all {
		want = append(want, x.answers())
	}
	shared := made(t, all[0].m)
	var group sync.WaitGroup
	for n := range 8 {
		group.Go(func() {
			for k := range all {
				i := (k*7 + n*5) % len(all)
				if got := all[i].answers(); !sameAnswers(got, want[i]) {
					t.Errorf("%v, not %v", got, want[i])
				}
				for _, a := range all[0].types {
					for _, v := range all[0].values {
						shared.Is(v, a)
					}
				}
				checkDeclared(t, shared, all[0].m)
			}
		})
	}
	group.Wait()
}

// TestR2TheFirstErrorEachTime has modules with faults: the same one is told each time.
func TestR2TheFirstErrorEachTime(t *testing.T) {
	g := newGenerator(15)
	for range 300 {
		m := g.module()
		g.spoil(&m, 5)
		_, at, e := decl.New(m)
		for range 10 {
			if _, p, again := decl.New(m); again != e || p != at {
				t.Fatalf("%v at %v, and then %v at %v", e, at, again, p)
			}
		}
	}
}

// TestR6EmptyLists has empty lists that are nil, and others that are not.
func TestR6EmptyLists(t *testing.T) {
	for _, x := range mixed(newGenerator(16), 100) {
		other := given{emptied(x.m), emptied(x.types), emptied(x.values)}
		if got, want := other.answers(), x.answers(); !sameAnswers(got, want) {
			t.Errorf("%v, not %v", got, want)
		}
	}
}

// emptied is something in which each empty list is not nil.
func emptied[T any](x T) T {
	x = plain(x)
	var visit func(x reflect.Value)
	visit = func(x reflect.Value) {
		switch x.Kind() {
		case reflect.Slice:
			if x.IsNil() {
				x.Set(reflect.MakeSlice(x.Type(), 0, 0))
			}
			for i := range x.Len() {
				visit(x.Index(i))
			}
		case reflect.Struct:
			for i := range x.NumField() {
				visit(x.Field(i))
			}
		}
	}
	visit(reflect.ValueOf(&x).Elem())
	return x
}
