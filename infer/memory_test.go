package infer_test

import (
	"cmp"
	"reflect"
	"slices"
	"sync"
	"testing"

	"corollary/api"
	"corollary/infer"
)

// answer is all that Make returns.
type answer struct {
	types infer.Types
	at    api.Pos
	e     api.Errno
}

func answerOf(m api.Module) answer {
	x, at, e := infer.Make(m)
	return answer{plain(x), at, e}
}

func sameAnswer(a, b answer) bool { return reflect.DeepEqual(a, b) }

// endlessType contains itself, twice.
func endlessType(name string) api.Type {
	l := make([]api.Type, 2)
	l[0] = typ(name, l...)
	l[1] = l[0]
	return l[0]
}

// doubledType has so many levels, each of which has the next one twice, in the same memory.
func doubledType(levels int) api.Type {
	x := typ("int")
	for range levels - 1 {
		x = typ("tuple", x, x)
	}
	return x
}

func endlessExpr(kind uint8, name string) api.Expr {
	l := make([]api.Expr, 2)
	l[0] = api.Expr{Kind: kind, Name: name, Args: l}
	l[1] = l[0]
	return l[0]
}

func doubledExpr(levels int) api.Expr {
	x := lit(1)
	for range levels - 1 {
		x = tup(x, x)
	}
	return x
}

func endlessValue() api.Value {
	l := make([]api.Value, 2)
	l[0] = api.Value{Kind: api.Tuple, L: l}
	l[1] = l[0]
	return l[0]
}

// TestR1NothingAtAll has modules of which nearly nothing is there.
func TestR1NothingAtAll(t *testing.T) {
	made(t, api.Module{})
	for _, m := range []api.Module{
		{Types: make([]api.TypeDef, 1)}, {Types: []api.TypeDef{{Cons: make([]api.ConsDef, 1)}}}, {Types: []api.TypeDef{{Params: make([]string, 2), Cons: []api.ConsDef{{Fields: make([]api.FieldDef, 2)}}}}},
		{Rels: make([]api.RelDef, 1)}, {Rels: []api.RelDef{{Fields: make([]api.FieldDef, 1)}}}, {Rules: make([]api.Rule, 2)}, {Nevers: make([]api.Never, 2)}, {Imports: make([]api.Import, 3)},
		{Rels: make([]api.RelDef, 1), Rules: make([]api.Rule, 1)}, {Rels: make([]api.RelDef, 1), Rules: []api.Rule{{Body: make([]api.Literal, 1)}}}, {Nevers: []api.Never{{Body: make([]api.Literal, 1)}}},
		{Nevers: []api.Never{{Body: []api.Literal{{Kind: api.Cond}, {Kind: api.Bind}}}}}, {Nevers: []api.Never{{Body: []api.Literal{{Kind: api.Atom}, {Kind: api.Not}}}}},
		{Rels: make([]api.RelDef, 1), Nevers: []api.Never{{Body: []api.Literal{{Kind: api.Atom}, {Kind: api.Not}}}}},
	} {
		if x, at, e := infer.Make(m); e != api.OK && (x.Rules != nil || x.Nevers != nil) || e == api.OK && at != (api.Pos{}) {
			t.Errorf("%v, %v, %v", x, at, e)
		}
	}
	m := api.Module{Rels: make([]api.RelDef, 1), Rules: make([]api.Rule, 1), Nevers: []api.Never{{Body: []api.Literal{{Kind: api.Atom}, {Kind: api.Not}}}}}
	if x := made(t, m); len(x.Rules[0]) != 0 || len(x.Nevers[0]) != 0 {
		t.Errorf("%v", x)
	}
}

// TestR1WithoutEnd has what contains itself, and what there is too much of, at each place.
func TestR1WithoutEnd(t *testing.T) {
	m := soundModule(t)
	for _, x := range []api.Type{endlessType("tuple"), endlessType("list"), endlessType("'a"), endlessType(""), doubledType(64)} {
		n := copied(m)
		n.Types[0].Cons[1].Fields[0].Type = x
		checkRefused(t, "a type", n, m.Types[0].Pos, api.ErrDeep)
		n = copied(m)
		n.Rels[0].Fields[0].Type = x
		checkRefused(t, "a relation", n, m.Rels[0].Pos, api.ErrDeep)
	}
	for _, s := range spots(m) {
		for kind := range 10 {
			for _, name := range []string{"", "X", "some", "cons", "+", "x"} {
				n := copied(m)
				s.put(n, endlessExpr(uint8(kind), name))
				if x, _, e := infer.Make(n); e == api.OK || x.Rules != nil || x.Nevers != nil {
					t.Errorf("an expression without an end: %v", e)
				}
			}
		}
		n := copied(m)
		s.put(n, api.Expr{Kind: api.Lit, Value: endlessValue()})
		checkRefused(t, "a value without an end", n, s.at, api.ErrForm)
		n = copied(m)
		s.put(n, api.Expr{Kind: api.Var, Name: "X", Value: endlessValue()})
		checkRefused(t, "a value without an end", n, s.at, api.ErrForm)
	}
}

// TestR1TooMuch has expressions that have an end, but take the same memory many times.
func TestR1TooMuch(t *testing.T) {
	m := soundModule(t)
	all := spots(m)
	for _, s := range []spot{all[0], all[3], all[len(all)-1]} {
		n := copied(m)
		s.put(n, doubledExpr(64))
		if _, _, e := infer.Make(n); e != api.ErrDeep {
			t.Errorf("too many expressions: %v", e)
		}
	}
	n := copied(m)
	n.Rules[1].Body[0] = api.Literal{Kind: api.Bind, Rel: "X", Args: []api.Expr{doubledExpr(18)}, Pos: api.Pos{Line: 7, Col: 7}}
	checkRefused(t, "a wide type", n, api.Pos{Line: 7, Col: 7}, api.ErrType)
}

// TestR1TypesThatDouble has types that double with each variable, in a rule with a variable of each, and of none but the first.
func TestR1TypesThatDouble(t *testing.T) {
	m := moduleOf(t, "rel p() p().")
	names := make([]string, 500)
	for i := range names {
		names[i] = varName(i)
	}
	for _, isSplit := range []bool{false, true} {
		var body []api.Literal
		for i := range names[1:] {
			x := tup(variable(names[i+1]), variable(names[i+1]))
			if isSplit {
				body = append(body, api.Literal{Kind: api.Cond, Args: []api.Expr{call("==", variable(names[i]), x)}})
			} else {
				body = append(body, api.Literal{Kind: api.Bind, Rel: names[i], Args: []api.Expr{x}})
			}
		}
		m.Rules[0].Body = body
		checkRefused(t, "types that double", m, m.Rules[0].Pos, api.ErrTooLarge)
		m.Rules[0].Body = append(body, api.Literal{Kind: api.Bind, Rel: names[len(names)-1], Args: []api.Expr{variable(names[0])}, Pos: api.Pos{Line: 9, Col: 9}})
		checkRefused(t, "types that contain themselves", m, api.Pos{Line: 9, Col: 9}, api.ErrType)
		slices.Reverse(body)
		m.Rules[0].Body = body
		checkRefused(t, "types that double", m, m.Rules[0].Pos, api.ErrTooLarge)
		m.Rules[0].Body = append(body, api.Literal{Kind: api.Cond, Args: []api.Expr{{Kind: api.Field, Name: "x", Args: []api.Expr{variable(names[0])}, Pos: api.Pos{Line: 8, Col: 8}}}})
		checkRefused(t, "a field of them", m, api.Pos{Line: 8, Col: 8}, api.ErrType)
	}
}

// mixed are modules that have types, and some that have none.
func mixed(g *generator, n int) []api.Module {
	var all []api.Module
	for range n {
		m := g.accepted(3)
		spoiled := copied(m)
		g.spoil(&spoiled, 1)
		all = append(all, m, spoiled)
	}
	return all
}

// lists are all lists in something, each with what is behind its end.
func lists(x reflect.Value) []reflect.Value {
	var l []reflect.Value
	switch x.Kind() {
	case reflect.Interface:
		return lists(x.Elem())
	case reflect.Struct:
		for i := range x.NumField() {
			l = append(l, lists(x.Field(i))...)
		}
	case reflect.Slice:
		whole := x.Slice(0, x.Cap())
		if x.Cap() > 0 {
			l = append(l, whole)
		}
		for i := range whole.Len() {
			l = append(l, lists(whole.Index(i))...)
		}
	}
	return l
}

func listsIn(all ...any) []reflect.Value {
	var l []reflect.Value
	for _, x := range all {
		l = append(l, lists(reflect.ValueOf(x))...)
	}
	return l
}

// checkApart requires that no two of some lists share memory.
func checkApart(t *testing.T, l []reflect.Value) {
	t.Helper()
	type part struct{ begin, end uintptr }
	var parts []part
	for _, x := range l {
		parts = append(parts, part{x.Pointer(), x.Pointer() + uintptr(x.Len())*x.Type().Elem().Size()})
	}
	slices.SortFunc(parts, func(a, b part) int { return cmp.Compare(a.begin, b.begin) })
	for i, x := range parts[min(1, len(parts)):] {
		if x.begin < parts[i].end {
			t.Fatalf("%d lists share memory", len(l))
		}
	}
}

// withMore is something in memory of its own, with another thing of the same type behind the end of each list.
func withMore[T any](x T, behind ...any) T {
	x = copied(x)
	var put func(x reflect.Value)
	put = func(x reflect.Value) {
		switch x.Kind() {
		case reflect.Struct:
			for i := range x.NumField() {
				put(x.Field(i))
			}
		case reflect.Slice:
			n := x.Len()
			more := reflect.MakeSlice(x.Type(), n+2, n+2)
			for i := range n {
				put(x.Index(i))
				more.Index(i).Set(x.Index(i))
			}
			for _, other := range behind {
				if reflect.TypeOf(other) == x.Type().Elem() {
					more.Index(n).Set(reflect.ValueOf(other))
				}
			}
			x.Set(more.Slice(0, n))
		}
	}
	put(reflect.ValueOf(&x).Elem())
	return x
}

// TestR3NothingIsReadBehindTheEnds has wrong things behind the ends of all lists.
func TestR3NothingIsReadBehindTheEnds(t *testing.T) {
	field := api.FieldDef{Name: "x", Type: typ("nope")}
	for _, m := range mixed(newGenerator(11), 100) {
		more := withMore(m, endlessType("nope"), endlessValue(), endlessExpr(api.Make, "nope"), "nope", field, api.ConsDef{Name: "nil"}, api.TypeDef{Name: "int"}, api.RelDef{Name: "p"}, api.Literal{Kind: api.Atom}, api.Rule{}, api.Never{Body: []api.Literal{{Kind: api.Not}}})
		if got, want := answerOf(more), answerOf(m); !sameAnswer(got, want) {
			t.Errorf("%v, not %v", got, want)
		}
	}
}

// TestR3NothingIsChanged compares all that was handed in, with what is behind the ends of lists, with a copy of it.
func TestR3NothingIsChanged(t *testing.T) {
	for _, m := range mixed(newGenerator(12), 100) {
		m = withMore(m, typ("int"), lit(1), "'a")
		want := listsIn(copied(m))
		infer.Make(m)
		for i, list := range listsIn(m) {
			if !reflect.DeepEqual(list.Interface(), want[i].Interface()) {
				t.Fatalf("changed: %v", list)
			}
		}
	}
}

// TestR3NewMemory has what was handed in, and the results of several calls, apart from one another, also within each result.
func TestR3NewMemory(t *testing.T) {
	g := newGenerator(13)
	for range 100 {
		m := g.accepted(3)
		x, again := made(t, m), made(t, m)
		want := copied(again)
		checkApart(t, listsIn(m, x, again))
		for _, l := range listsIn(m, x) {
			for i := range l.Len() {
				l.Index(i).SetZero()
			}
		}
		if !same(again, want) {
			t.Error("another result has changed")
		}
	}
	m := moduleOf(t, declared+"never a :- ln(X), ln(Y), X = Y, Z = (X, Y), A = (nil, nil), B = A, bp(C), D = C.v, E = C. never b :- ln(X), bp(C), D = C.")
	checkApart(t, listsIn(made(t, m), made(t, m), m))
}

// TestR2TheArgumentsAlone calls with other modules in between, in many goroutines.
func TestR2TheArgumentsAlone(t *testing.T) {
	all := mixed(newGenerator(14), 40)
	var want []answer
	for _, m := range all {
		want = append(want, answerOf(m))
	}
	var group sync.WaitGroup
	for n := range 8 {
		group.Go(func() {
			for k := range all {
				i := (k*7 + n*5) % len(all)
				if got := answerOf(all[i]); !sameAnswer(got, want[i]) {
					t.Errorf("%v, not %v", got, want[i])
				}
			}
		})
	}
	group.Wait()
}

// TestR2TheSameEachTime has modules with several faults, and some without: the same is told each time.
func TestR2TheSameEachTime(t *testing.T) {
	g := newGenerator(15)
	for range 150 {
		m := g.module(2)
		g.spoil(&m, 3)
		want := answerOf(m)
		for range 5 {
			if got := answerOf(m); !sameAnswer(got, want) {
				t.Fatalf("%v, and then %v", want, got)
			}
		}
	}
}

// TestR6EmptyLists has empty lists that are nil, and others that are not.
func TestR6EmptyLists(t *testing.T) {
	for _, m := range mixed(newGenerator(16), 100) {
		if got, want := answerOf(emptied(m)), answerOf(plain(m)); !sameAnswer(got, want) {
			t.Errorf("%v, not %v", got, want)
		}
	}
}

// emptied is something in which each empty list is not nil.
func emptied[T any](x T) T {
	x = plain(x)
	var visit func(x reflect.Value)
	visit = func(x reflect.Value) {
		switch x.Kind() {
		case reflect.Slice:
			if x.IsNil() {
				x.Set(reflect.MakeSlice(x.Type(), 0, 0))
			}
			for i := range x.Len() {
				visit(x.Index(i))
			}
		case reflect.Struct:
			for i := range x.NumField() {
				visit(x.Field(i))
			}
		}
	}
	visit(reflect.ValueOf(&x).Elem())
	return x
}
