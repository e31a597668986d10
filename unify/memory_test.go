package unify_test

import (
	"reflect"
	"runtime"
	"slices"
	"strconv"
	"sync"
	"testing"

	"corollary/api"
	"corollary/unify"
)

// TestR1WhatContainsItself has types without an end, or with too much of one, alone and among others, in each call.
func TestR1WhatContainsItself(t *testing.T) {
	x := unify.New()
	for _, wrong := range []api.Type{endless("list"), endless("'a"), endless(""), endlessTwice(), around(3, endlessTwice()), doubled(60), typ("t", doubled(60), endlessTwice()), nested(1000000, typ("int"))} {
		checkErrors(t, x, wrong, typ("'a"), api.ErrForm, api.ErrForm, api.ErrForm)
		checkErrors(t, x, wrong, wrong, api.ErrForm, api.ErrForm, api.ErrForm)
		if unify.May(wrong) || unify.IsVar(wrong) || len(unify.Vars([]api.Type{wrong})) != 0 {
			t.Errorf("%s is valid", shown(wrong))
		}
		one := unify.Subst(wrong, []string{"'a"}, types("int"))
		other := unify.Subst(typ("'a"), []string{"'a"}, []api.Type{wrong})
		all := unify.Canon([]api.Type{typ("'b"), wrong, wrong})
		if one.Name != wrong.Name || !alikeOnes(other, typ("'a")) || len(all) != 3 || all[0].Name != "'b" || all[2].Name != wrong.Name {
			t.Errorf("not as they were given: %s; %s; %s", shown(one), shown(other), shown(all...))
		}
		unify.Same(wrong, wrong)
		unify.Same(wrong, endlessTwice())
		if unify.Same(wrong, typ("t")) || unify.Same(typ("list", typ("int")), wrong) {
			t.Errorf("%s is another type", shown(wrong))
		}
	}
}

// TestR1TablesThatWereNotMade has those that New has not made.
func TestR1TablesThatWereNotMade(t *testing.T) {
	made := tableOf(t, "'a = int; 'b = list('c)")
	taken := *made
	for _, x := range []*unify.Table{new(unify.Table), {}, &taken, made} {
		y := x.Copy()
		for i := range 20 {
			a := typ("'x" + strconv.Itoa(i))
			x.Unify(a, typ("t", typ("'c"), x.Var()))
			y.Unify(a, of("list('c)"))
			made.Unify(a, of("t('c, 'd)"))
			x.Fresh([]api.Type{a})
			x.Resolve(typ("t", a, a))
			made.Resolve(typ("t", a, a))
			y = y.Copy()
		}
	}
}

// TestR1LongLists has many types, and many names.
func TestR1LongLists(t *testing.T) {
	const n = 200000
	l := make([]api.Type, n)
	names := make([]string, n)
	for i := range l {
		names[i] = "'v" + strconv.Itoa(i)
		l[i] = typ(names[i])
	}
	if got := unify.Vars(l); !slices.Equal(got, names) {
		t.Errorf("Vars: %d", len(got))
	}
	if got, e := unify.New().Fresh(l); e != api.OK || got[n-1].Name != "'"+strconv.Itoa(n) {
		t.Errorf("Fresh: %d, %v", len(got), e)
	}
	if got := unify.Canon(l); len(got) != n || got[n-1].Name != "'"+string(rune('a'+(n-1)%26))+strconv.Itoa((n-1)/26) {
		t.Errorf("Canon: %d", len(got))
	}
	slices.Reverse(l)
	if got := unify.Subst(wide(2048, typ("'v0")), names, l); !alikeOnes(got, wide(2048, typ(names[n-1]))) {
		t.Errorf("Subst: %s", shown(got))
	}
}

// heap is how much memory is in use.
func heap() uint64 {
	runtime.GC()
	var m runtime.MemStats
	runtime.ReadMemStats(&m)
	return m.HeapAlloc
}

// TestP9_4NoMoreIsKept makes calls that bind nothing, with types of many parts, many times.
func TestP9_4NoMoreIsKept(t *testing.T) {
	x := tableOf(t, "'a = int; 'b = list('c)")
	same := typ("t", slices.Repeat(types("'a, int, list('c), 'd"), 300)...)
	refused := typ("t", append(slices.Clone(same.Args[1:]), same.Args[0])...)
	before := heap()
	for range 1000 {
		if x.Unify(same, same) != api.OK || x.Unify(typ("t", same, of("list(int)")), typ("t", same, of("list('a)"))) != api.OK || x.Unify(same, refused) != api.ErrType {
			t.Fatal("it was unified in another way")
		}
		resolved(t, x, same)
		if _, e := x.Fresh([]api.Type{same}); e != api.OK {
			t.Fatal(e)
		}
	}
	for i := range 50000 {
		a := numbered(i)
		if x.Unify(a, a) != api.OK || x.Unify(a, typ("list", a)) != api.ErrType || x.Unify(typ("t", a, typ("int")), typ("t", a, typ("text"))) != api.ErrType {
			t.Fatal("it was unified in another way")
		}
	}
	if after := heap(); after > before+1<<20 {
		t.Errorf("%d bytes are in use, after %d", after, before)
	}
	runtime.KeepAlive(x)
}

// withMore has something behind the end of each list in types.
func withMore(l []api.Type, behind api.Type) []api.Type {
	more := make([]api.Type, len(l)+2)
	for i, x := range l {
		more[i] = typ(x.Name, withMore(x.Args, behind)...)
	}
	more[len(l)], more[len(l)+1] = behind, behind
	return more[:len(l)]
}

// results are what all calls return for some types, in a table that has bindings.
func results(x *unify.Table, l []api.Type, names []string) []any {
	var all []any
	for _, a := range l {
		for _, b := range l {
			all = append(all, x.Unify(a, b), unify.Same(a, b))
		}
		resolved, e := x.Resolve(a)
		all = append(all, resolved, e, unify.May(a), unify.IsVar(a), unify.Subst(a, names, l))
	}
	fresh, e := x.Fresh(l)
	return append(all, fresh, e, unify.Vars(l), unify.Canon(l), x.Var())
}

// plain is something in which each empty list is nil.
func plain[T any](x T) T {
	x = copied(x)
	simplify(reflect.ValueOf(&x).Elem())
	return x
}

func simplify(x reflect.Value) {
	switch x.Kind() {
	case reflect.Interface:
		inner := reflect.New(x.Elem().Type()).Elem()
		inner.Set(x.Elem())
		simplify(inner)
		x.Set(inner)
	case reflect.Struct:
		for i := range x.NumField() {
			simplify(x.Field(i))
		}
	case reflect.Slice:
		if x.Len() == 0 {
			x.SetZero()
		}
		for i := range x.Len() {
			simplify(x.Index(i))
		}
	}
}

func sameResults(a, b []any) bool { return reflect.DeepEqual(plain(a), plain(b)) }

// mixed are lists of types, some of which have invalid ones.
func mixed(g *generator, n int) [][]api.Type {
	var all [][]api.Type
	for range n {
		l := someTypes(g)
		if g.chance(4) {
			l = slices.Insert(l, g.IntN(len(l)+1), around(g.IntN(3), typ(pick(g, "", "'"))))
		}
		all = append(all, l)
	}
	return all
}

// TestR3NothingIsReadBehindTheEnds has other types behind the ends of all lists.
func TestR3NothingIsReadBehindTheEnds(t *testing.T) {
	for _, l := range mixed(newGenerator(10), 300) {
		want := results(unify.New(), l, []string{"'b", "'a"})
		for _, behind := range []api.Type{typ(""), typ("'a"), typ("'1"), endless("t")} {
			if got := results(unify.New(), withMore(l, behind), append(make([]string, 0, 4), "'b", "'a", "'c", "'d")[:2]); !sameResults(got, want) {
				t.Errorf("%s: %v, not %v", shown(l...), got, want)
			}
		}
	}
}

// TestR3NothingIsChanged compares all that was handed in, with what is behind the ends of lists, with a copy of it.
func TestR3NothingIsChanged(t *testing.T) {
	for _, l := range mixed(newGenerator(11), 300) {
		l = withMore(l, typ("'a"))
		names := append(make([]string, 0, 4), "'b", "'a", "'c", "'d")[:2]
		before, namesBefore := copied(l), copied(names)
		results(unify.New(), l, names)
		for i, list := range listsIn(l, names) {
			if !reflect.DeepEqual(list.Interface(), listsIn(before, namesBefore)[i].Interface()) {
				t.Fatalf("changed: %v", list)
			}
		}
	}
}

// TestR3NewMemory has what was handed in, and the results of calls, apart from one another, and overwrites what was handed in and returned.
func TestR3NewMemory(t *testing.T) {
	for _, l := range mixed(newGenerator(12), 300) {
		x, y := unify.New(), unify.New()
		names := []string{"'b", "'a"}
		l = withMore(l, typ("'a"))
		untouched := copied(l)
		first := results(x, l, names)
		z := x.Copy()
		checkApart(t, listsIn(append(slices.Clone(first), l, names)...))
		want := results(y, untouched, []string{"'b", "'a"})
		spoil(first...)
		spoil(l, names)
		for _, table := range []*unify.Table{z, x} {
			again := results(table, copied(untouched), []string{"'b", "'a"})
			if expected := results(y.Copy(), copied(untouched), []string{"'b", "'a"}); !sameResults(again, expected) {
				t.Fatalf("%s: %v, not %v", shown(untouched...), again, expected)
			}
			spoil(again...)
		}
		if len(want) != len(first) {
			t.Fatal("other results")
		}
	}
}

// TestR3SharedArguments has types whose lists share memory: those of the results do not.
func TestR3SharedArguments(t *testing.T) {
	args := types("'a, int, 'b")
	l := []api.Type{{Name: "t", Args: args}, {Name: "u", Args: args[:2]}, {Name: "int", Args: args[:0]}, {Name: "t", Args: args}}
	l = append(l, typ("w", l...), typ("w", l...))
	x := unify.New()
	if x.Unify(typ("'a"), l[4]) != api.OK || x.Unify(typ("'c"), typ("v", l[1], l[1])) != api.ErrType {
		x = unify.New()
	}
	if e := x.Unify(typ("'d"), l[5]); e != api.OK {
		t.Fatal(e)
	}
	for range 2 {
		resolved, _ := x.Resolve(of("t('d, 'd)"))
		fresh, _ := x.Fresh(l)
		all := []any{resolved, fresh, unify.Subst(l[4], []string{"'a", "'b"}, []api.Type{l[0], l[0]}), unify.Canon(l), unify.Canon(append([]api.Type{typ("")}, l...)), unify.Subst(typ("'", l...), nil, nil)}
		checkApart(t, listsIn(append(all, args)...))
		for _, x := range all {
			if reflect.ValueOf(x).Kind() == reflect.Struct && len(x.(api.Type).Args) == 0 {
				t.Errorf("nothing: %v", x)
			}
		}
		spoil(all...)
	}
}

// TestR2TheArgumentsAlone calls with other tables, and types, in between, and in many goroutines.
func TestR2TheArgumentsAlone(t *testing.T) {
	all := mixed(newGenerator(13), 60)
	var want [][]any
	for _, l := range all {
		want = append(want, results(unify.New(), copied(l), []string{"'a", "'c"}))
	}
	var group sync.WaitGroup
	for n := range 8 {
		group.Go(func() {
			for k := range all {
				i := (k*7 + n*5) % len(all)
				if got := results(unify.New(), all[i], []string{"'a", "'c"}); !sameResults(got, want[i]) {
					t.Errorf("%v, not %v", got, want[i])
				}
			}
		})
	}
	group.Wait()
}

// TestR2TablesByThemselves makes the calls of two tables in turn: they are as if made one after another.
func TestR2TablesByThemselves(t *testing.T) {
	g := newGenerator(14)
	for range 300 {
		first, second := g.pairs(1, 5, allVars()), g.pairs(1, 5, allVars())
		x, y := unify.New(), unify.New()
		for i := range max(len(first), len(second)) {
			if i < len(first) {
				x.Unify(first[i].a, first[i].b)
			}
			if i < len(second) {
				y.Unify(second[i].a, second[i].b)
			}
		}
		alone := unify.New()
		for _, p := range second {
			alone.Unify(p.a, p.b)
		}
		if !alike(state(y, allVars()), state(alone, allVars())) {
			t.Errorf("%s, not %s", shown(state(y, allVars())...), shown(state(alone, allVars())...))
		}
	}
}
