package module_test

import (
	"cmp"
	"math"
	"reflect"
	"slices"
	"strings"
	"sync"
	"testing"

	"corollary/api"
	"corollary/module"
)

// answer is what Flatten returns.
type answer struct {
	program api.Module
	at      module.Where
	e       api.Errno
}

func answerFor(l []api.Module) answer {
	m, at, e := module.Flatten(l)
	return answer{m, at, e}
}

func sameAnswer(a, b answer) bool {
	return a.e == b.e && a.at == b.at && reflect.DeepEqual(plain(a.program), plain(b.program))
}

// mixed are modules that have a program, and some that have none.
func mixed(g *generator, n int) [][]api.Module {
	var all [][]api.Module
	for range n {
		all = append(all, g.modules(5, 3).given, g.spoil(g.modules(4, 3).given))
	}
	return all
}

// endless is an expression that contains itself.
func endless(kind uint8) api.Expr {
	l := make([]api.Expr, 2)
	l[0] = api.Expr{Kind: kind, Name: "c", Args: l}
	l[1] = l[0]
	return l[0]
}

func endlessType() api.Type {
	l := make([]api.Type, 2)
	l[0] = api.Type{Name: "tuple", Args: l}
	l[1] = l[0]
	return l[0]
}

func endlessValue() api.Value {
	l := make([]api.Value, 2)
	l[0] = api.Value{Kind: api.Tuple, L: l}
	l[1] = l[0]
	return l[0]
}

// TestR1WhatContainsItself has it at each place, in the first module and in a later one.
func TestR1WhatContainsItself(t *testing.T) {
	of := func(m api.Module, e api.Errno) {
		t.Helper()
		m.Name = "w"
		checkRefused(t, "endless", []api.Module{m}, whereIn("w", api.Pos{}), e)
		checkRefused(t, "endless", []api.Module{{Name: "m"}, m}, whereIn("w", api.Pos{}), e)
		checkRefused(t, "endless", []api.Module{m, {}}, whereIn("w", api.Pos{}), e)
	}
	for kind := range 10 {
		x := endless(uint8(kind))
		of(api.Module{Rules: []api.Rule{{Rel: "p", Args: []api.Expr{x}, Aggs: []string{""}}}}, api.ErrDeep)
		for k := range 6 {
			body := []api.Literal{{Kind: uint8(k), Rel: "p", Args: []api.Expr{x}}}
			of(api.Module{Rules: []api.Rule{{Rel: "p", Body: body}}}, api.ErrDeep)
			of(api.Module{Nevers: []api.Never{{Name: "n", Body: body}}}, api.ErrDeep)
		}
		value := api.Expr{Kind: uint8(kind), Value: endlessValue()}
		of(api.Module{Rules: []api.Rule{{Rel: "p", Args: []api.Expr{value}, Aggs: []string{""}}}}, api.ErrForm)
	}
	fields := []api.FieldDef{{Name: "f", Type: endlessType()}}
	of(api.Module{Rels: []api.RelDef{{Name: "p", Fields: fields}}}, api.ErrDeep)
	of(api.Module{Types: []api.TypeDef{{Name: "t", Cons: []api.ConsDef{{Name: "c", Fields: fields}}}}}, api.ErrDeep)
}

// TestR1AnyModules has empty ones, and any numbers and texts.
func TestR1AnyModules(t *testing.T) {
	for n := 1; n <= 8; n++ {
		checkRefused(t, "empty modules", make([]api.Module, n), module.Where{}, api.ErrForm)
	}
	strange := api.Pos{Line: math.MinInt, Col: math.MaxInt}
	l, _ := modulesOf(t, "module m import b rel p() p() :- b.p().", "module b pub rel p()")
	l[0].Rules[0].Body[0].Pos = strange
	l[1].Rels[0].Pub = false
	checkRefused(t, "a strange position", l, whereIn("m", strange), api.ErrName)
	l[1].Rels[0].Pub = true
	if m := flat(t, l...); m.Rules[0].Body[0].Pos != strange {
		t.Errorf("%+v", m.Rules[0])
	}
	long := strings.Repeat("\xff", 1<<20)
	checkRefused(t, "a long name", []api.Module{{Name: long}, {Name: long}}, whereIn(long, api.Pos{}), api.ErrForm)
	checkRefused(t, "long names", []api.Module{{Name: "m", Rels: []api.RelDef{{Name: long}}}}, whereIn("m", api.Pos{}), api.ErrForm)
}

// withMore has something behind the end of each list: an expression, a type, a name, or nothing.
func withMore(l []api.Module, e api.Expr, x api.Type, name string) []api.Module {
	l = copied(l)
	var put func(x reflect.Value)
	put = func(list reflect.Value) {
		switch list.Kind() {
		case reflect.Struct:
			for i := range list.NumField() {
				put(list.Field(i))
			}
		case reflect.Slice:
			for i := range list.Len() {
				put(list.Index(i))
			}
			n := list.Len()
			more := reflect.MakeSlice(list.Type(), n+1, n+1)
			reflect.Copy(more, list)
			for _, behind := range []any{e, x, name} {
				if reflect.TypeOf(behind) == list.Type().Elem() {
					more.Index(n).Set(reflect.ValueOf(behind))
				}
			}
			list.Set(more.Slice(0, n))
		}
	}
	put(reflect.ValueOf(&l).Elem())
	return l
}

// TestR3NothingIsReadBehindTheEnds has wrong things behind the ends of all lists.
func TestR3NothingIsReadBehindTheEnds(t *testing.T) {
	for _, l := range mixed(newGenerator(9), 200) {
		want, got := answerFor(l), answerFor(withMore(l, endless(api.Make), endlessType(), "wrong"))
		if !sameAnswer(got, want) {
			t.Errorf("%v at %+v, not %v at %+v", got.e, got.at, want.e, want.at)
		}
	}
}

// TestR3NothingIsChanged compares all that was handed in, with what is behind the ends of lists, with a copy of it.
func TestR3NothingIsChanged(t *testing.T) {
	for _, l := range mixed(newGenerator(10), 200) {
		l = withMore(l, api.Expr{Kind: api.Make, Name: "nope"}, api.Type{Name: "nope"}, "nope")
		untouched := copied(l)
		module.Flatten(l)
		before, after := lists(reflect.ValueOf(untouched)), lists(reflect.ValueOf(l))
		for i, x := range after {
			if !reflect.DeepEqual(x.Interface(), before[i].Interface()) {
				t.Fatalf("changed: %v, not %v", x, before[i])
			}
		}
	}
}

// lists are all lists in something, each with what is behind its end.
func lists(x reflect.Value) []reflect.Value {
	var l []reflect.Value
	switch x.Kind() {
	case reflect.Struct:
		for i := range x.NumField() {
			l = append(l, lists(x.Field(i))...)
		}
	case reflect.Slice:
		whole := x.Slice(0, x.Cap())
		if x.Cap() > 0 {
			l = append(l, whole)
		}
		for i := range whole.Len() {
			l = append(l, lists(whole.Index(i))...)
		}
	}
	return l
}

// checkApart requires that no two of some lists share memory.
func checkApart(t *testing.T, l []reflect.Value) {
	t.Helper()
	type part struct{ begin, end uintptr }
	var parts []part
	for _, x := range l {
		parts = append(parts, part{x.Pointer(), x.Pointer() + uintptr(x.Len())*x.Type().Elem().Size()})
	}
	slices.SortFunc(parts, func(a, b part) int { return cmp.Compare(a.begin, b.begin) })
	for i, x := range parts[min(1, len(parts)):] {
		if x.begin < parts[i].end {
			t.Fatalf("%d lists share memory", len(l))
		}
	}
}

// spoil overwrites all lists in something, with what is behind their ends.
func spoil(x reflect.Value) {
	for _, list := range lists(x) {
		for i := range list.Len() {
			list.Index(i).SetZero()
		}
	}
}

// TestR3NewMemory has what was handed in, and the results of two calls, apart from one another, and overwrites what was returned.
func TestR3NewMemory(t *testing.T) {
	g := newGenerator(11)
	for range 100 {
		x := g.modules(5, 3)
		given := withMore(x.given, api.Expr{Kind: api.Make, Name: "nope"}, api.Type{Name: "nope"}, "nope")
		first, second := flat(t, given...), flat(t, given...)
		results := append(lists(reflect.ValueOf(first)), lists(reflect.ValueOf(second))...)
		checkApart(t, append(results, lists(reflect.ValueOf(given))...))
		spoil(reflect.ValueOf(first))
		if third := flat(t, given...); !reflect.DeepEqual(plain(second), plain(x.want)) || !reflect.DeepEqual(plain(third), plain(x.want)) {
			t.Fatalf("another result has changed:\n%s", shown(second))
		}
		spoil(reflect.ValueOf(given))
		if !reflect.DeepEqual(plain(second), plain(x.want)) {
			t.Fatalf("it has changed with what was handed in:\n%s", shown(second))
		}
	}
}

// TestR3SharedArguments has modules whose lists share memory, also with what is behind the ends of empty ones: those of the result do not.
func TestR3SharedArguments(t *testing.T) {
	memory := make([]api.Value, 5)
	literal := api.Expr{Kind: api.Lit, Value: api.Value{Kind: api.Int, N: 1, L: memory[:0]}}
	empty := api.Expr{Kind: api.Make, Name: "c", Args: make([]api.Expr, 3)[:0]}
	parts := []api.Expr{literal, empty, literal}
	parts = []api.Expr{{Kind: api.Tup, Args: parts}, {Kind: api.Make, Name: "c", Args: parts}, {Kind: api.Tup, Args: parts[:2]}}
	body := times(2, api.Literal{Kind: api.Atom, Rel: "p", Args: parts})
	args := []api.Type{{Name: "int", Args: make([]api.Type, 2)[:0]}, {Name: "t", Args: []api.Type{{Name: "text"}}}}
	fields := times(3, api.FieldDef{Name: "f", Type: api.Type{Name: "tuple", Args: args}})
	m := api.Module{
		Types:  []api.TypeDef{{Name: "t", Params: make([]string, 3)[:0], Cons: []api.ConsDef{{Name: "c", Fields: fields}, {Name: "d", Fields: fields[1:]}}}},
		Rels:   []api.RelDef{{Name: "p", Fields: fields}, {Name: "q", Fields: fields[:2]}},
		Rules:  times(2, api.Rule{Rel: "p", Args: parts, Aggs: []string{"", "sum", ""}, Body: body}),
		Nevers: []api.Never{{Name: "n", Body: body}, {Name: "o", Body: body[:1]}},
	}
	a, b := m, m
	a.Name, b.Name = "a", "b"
	result := flat(t, a, b)
	checkApart(t, append(lists(reflect.ValueOf(result)), reflect.ValueOf(memory)))
	want, _, _ := oracle([]api.Module{a, b})
	if !reflect.DeepEqual(plain(result), plain(want)) {
		t.Errorf("%s\nnot\n%s", shown(result), shown(want))
	}
	for _, list := range lists(reflect.ValueOf([]api.Module{a, b})) {
		for _, one := range lists(reflect.ValueOf(result)) {
			if list.Pointer() == one.Pointer() {
				t.Errorf("shared: %v", one)
			}
		}
	}
}

// TestR2TheArgumentsAlone calls with other modules in between, and in many goroutines.
func TestR2TheArgumentsAlone(t *testing.T) {
	all := mixed(newGenerator(12), 30)
	var want []answer
	for _, l := range all {
		want = append(want, answerFor(copied(l)))
	}
	var group sync.WaitGroup
	for n := range 8 {
		group.Go(func() {
			for k := range all {
				i := (k*7 + n*5) % len(all)
				if got := answerFor(all[i]); !sameAnswer(got, want[i]) {
					t.Errorf("%v at %+v, not %v at %+v", got.e, got.at, want[i].e, want[i].at)
				}
			}
		})
	}
	group.Wait()
}
