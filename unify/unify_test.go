package unify_test

import (
	"slices"
	"strconv"
	"strings"
	"testing"

	"corollary/api"
	"corollary/unify"
)

func TestExamples(t *testing.T) {
	x := unify.New()
	checkUnify(t, x, "list('a)", "list(int)", api.OK)
	checkResolved(t, x, "'a", "int")
	checkUnify(t, x, "'b", "tuple('a, 'c)", api.OK)
	checkResolved(t, x, "'b", "tuple(int, 'c)")
	checkUnify(t, x, "'c", "'b", api.ErrType)
	checkUnify(t, x, "'d", "'e", api.OK)
	checkResolved(t, x, "'e", "'d")
	l, e := unify.New().Fresh(types("list('x), 'x, 'y"))
	if e != api.OK || !alike(l, types("list('1), '1, '2")) || !alike(unify.Canon(l), types("list('a), 'a, 'b")) {
		t.Errorf("Fresh: %s, %v", shown(l...), e)
	}
	if got := unify.Subst(of("f('a, 'b)"), []string{"'a"}, types("int")); !alikeOnes(got, of("f(int, 'b)")) {
		t.Errorf("Subst: %s", shown(got))
	}
	checkUnify(t, x, "int", "text", api.ErrType)
	if e := x.Unify(typ(""), typ("int")); e != api.ErrForm {
		t.Errorf("Unify with the empty name: %v", e)
	}
}

// TestP9_2Unify has two types in a table of its own, and what some types are then.
func TestP9_2Unify(t *testing.T) {
	for _, c := range [][4]string{
		{"int", "int", "'a, int", "'a, int"}, {"'a", "'a", "'a", "'a"}, {"'a", "int", "'a, 'b, list('a)", "int, 'b, list(int)"}, {"'a", "'b", "'a, 'b, t('b, 'c, 'a)", "'a, 'a, t('a, 'c, 'a)"}, {"'b", "list('a)", "'b, 'a, t('b, 'a)", "list('a), 'a, t(list('a), 'a)"},
		{"list('a)", "list(list(int))", "'a", "list(int)"}, {"t('a, 'b)", "t('b, int)", "'a, 'b", "int, int"}, {"t('a, 'b, 'c)", "t('b, 'c, 'd)", "'a, 'b, 'c, 'd", "'a, 'a, 'a, 'a"}, {"t('a, 'a)", "t(list('b), list(text))", "'a, 'b", "list(text), text"}, {"t('a, t('b, 'c))", "t(u('b), t(u('c), v))", "'a, 'b, 'c", "u(u(v)), u(v), v"},
		{"t('a, 'b)", "t(list('b), 'c)", "'a, 'b, 'c", "list('b), 'b, 'b"}, {"t('a, u('a))", "t('b, u(int))", "'a, 'b", "int, int"}, {"tuple", "tuple", "tuple", "tuple"}, {"t(t, t(t))", "t('a, t('a))", "'a", "t"}, {"t('a, 'b, 'a)", "t(u('c), u('d), u('b))", "'a, 'b, 'c, 'd", "u(u('d)), u('d), u('d), 'd"},
		{"'a", "list('b)", "'a, 'b, 'c", "list('b), 'b, 'c"}, {"t('z, 'y)", "t('y, 'x)", "'x, 'y, 'z", "'x, 'x, 'x"}, {"t(list('x), 'x)", "t('y, 'y)", "", ""}, {"''", "'a", "'', 'a", "'', ''"}, {"'A", "'a", "'a", "'A"}, {"'10", "'9", "'9, '10", "'10, '10"}, {"'ab", "'a", "'ab", "'a"}, {"'\x00", "'\xff", "'\xff", "'\x00"},
	} {
		x := unify.New()
		want := api.OK
		if c[2] == "" {
			want = api.ErrType
		}
		checkUnify(t, x, c[0], c[1], want)
		if want == api.OK {
			checkResolved(t, x, c[2], c[3])
			checkUnify(t, x, c[0], c[1], api.OK)
			checkResolved(t, x, c[2], c[3])
		}
	}
}

// TestP9_2UnifyOfWhatIsNot has two types in a table with bindings; they can't be unified, and nothing changes.
func TestP9_2UnifyOfWhatIsNot(t *testing.T) {
	for _, c := range [][2]string{
		{"int", "text"}, {"int", "int(int)"}, {"list('a)", "list"}, {"list('a)", "list('a, 'a)"}, {"t(int, int)", "t(int, text)"}, {"t(int, int)", "t(text, int)"}, {"t(t(int))", "t(t(text))"}, {"list(int)", "int"}, {"t('a, 'a)", "t(int, text)"}, {"t('a, int)", "t(text, 'a)"}, {"t('a, 'b, 'a)", "t('b, int, text)"}, {"t('a, 'b, list('a))", "t('b, list('c), 'b)"}, {"int", "Int"}, {"int", "int "}, {"t(int, 'a, 'b)", "t(text, 'b, 'a)"}, {"t('a, 'b, int)", "t('b, int, text)"},
		{"'a", "list('a)"}, {"'a", "t(int, t(int, 'a))"}, {"t('a, 'b)", "t(list('b), list('a))"}, {"t('a, 'a)", "t('b, list('b))"}, {"t('a, 'b, 'c)", "t(list('b), list('c), list('a))"}, {"t('a, 'b)", "t('b, u(int, 'a))"}, {"t('b, u(int, 'a))", "t('a, 'b)"}, {"list('a)", "list(list('a))"}, {"t('a, int)", "t(t('a, int), int)"}, {"t('a, 'c, 'b)", "t(list('b), 'd, 'a)"},
		{"i", "t"}, {"'i", "text"}, {"'i", "list('n)"}, {"'l", "int"}, {"'l", "list('l)"}, {"'l", "list(list('l))"}, {"'l", "t('v)"}, {"'v", "'l"}, {"'v", "list('l)"}, {"'w", "'l"}, {"t('v, 'w)", "t(int, text)"}, {"list('v)", "list('l)"}, {"t('n, 'v)", "t('v, list('n))"}, {"t('n, 'l, 'n)", "t('i, list(text), text)"}, {"t('n, 'v)", "t('p, t('n, 'p))"}, {"'p", "t('p, 'v)"}, {"t('p, 'v)", "t(t('q, text), int)"}, {"t('o, 'o)", "t('p, 'l)"},
	} {
		x := tableOf(t, "'i = int; 'l = list('v); 'w = 'v; 'p = t('v, 'q)")
		before, after := "t('i, 'l, 'v, 'w, 'p, 'q, 'n), 'a, 'b, 'c, 'd, 'o", "t(int, list('v), 'v, 'v, t('v, 'q), 'q, 'n), 'a, 'b, 'c, 'd, 'o"
		checkUnify(t, x, c[0], c[1], api.ErrType)
		checkResolved(t, x, before, after)
		checkUnify(t, x, c[0], c[1], api.ErrType)
		checkUnify(t, x, "t('a, 'b, 'c, 'n)", "t('v, 'a, int, text)", api.OK)
		checkResolved(t, x, before, "t(int, list('a), 'a, 'a, t('a, 'q), 'q, text), 'a, 'a, int, 'd, 'o")
	}
}

// TestP9_2UnifyInItself has variables that are unified with others, from either side, before and after one of them is in a type.
func TestP9_2UnifyInItself(t *testing.T) {
	for _, c := range []string{
		"'c = list('b); 'a = 'b", "'a = 'b; 'c = list('b)", "'c = list('a); 'a = 'b", "'c = list('b); 'd = 'b; 'a = 'd", "'c = list('b); 'e = 'a; 'd = 'b; 'e = 'd", "'c = t(int, u('b)); t('a, 'b) = t('d, 'd)", "'c = list('d); 'd = u('e); 'b = 'e; 'a = 'e", "'c = 'd; 'd = t('e, 'e); 'e = t('f, 'b); 'b = 'a", "t('a, 'c) = t('b, list('b))", "t('c, 'b, 'a) = t(list('b), 'd, 'd)",
	} {
		x := tableOf(t, c)
		before := state(x, allVars())
		for _, a := range types("'a, 'b") {
			for _, b := range types("'c, list('a), list('b), t(int, u('c))") {
				for _, p := range []pair{{a, b}, {b, a}, {typ("t", a), typ("t", b)}, {typ("t", typ("'g"), a), typ("t", b, typ("'g"))}} {
					if e := x.Unify(p.a, p.b); e != api.ErrType {
						t.Errorf("%s; Unify(%s, %s): %v", c, shown(p.a), shown(p.b), e)
					}
				}
			}
		}
		if !alike(state(x, allVars()), before) {
			t.Errorf("%s: something has changed", c)
		}
		checkUnify(t, x, "'a", "int", api.OK)
		checkUnify(t, x, "'b", "int", api.OK)
	}
}

// TestP9_2WhichVariable has variables that are unified with one another: the least one is told of all.
func TestP9_2WhichVariable(t *testing.T) {
	names := strings.Fields("'~ 'a '' 'b 'A '1 '10 '9 'aa 'a1 '_ 'B '\x01 '\xff 'ab")
	for seed := range uint64(200) {
		g := newGenerator(seed)
		x, groups := unify.New(), map[string][]string{}
		for _, name := range names {
			groups[name] = []string{name}
		}
		for range g.IntN(2 * len(names)) {
			a, b := pick(g, names...), pick(g, names...)
			if e := x.Unify(typ(a), typ(b)); e != api.OK {
				t.Fatal(e)
			}
			if slices.Contains(groups[a], b) {
				continue
			}
			both := slices.Concat(groups[a], groups[b])
			for _, name := range both {
				groups[name] = both
			}
			for _, name := range names {
				if got := resolved(t, x, typ(name)); got.Name != slices.Min(groups[name]) || len(got.Args) > 0 {
					t.Errorf("%q: %q, not the least of %q", name, got.Name, groups[name])
				}
			}
		}
		a := pick(g, names...)
		if e := x.Unify(typ(a), of("list(int)")); e != api.OK {
			t.Fatal(e)
		}
		for _, name := range names {
			want := typ(slices.Min(groups[name]))
			if slices.Contains(groups[a], name) {
				want = of("list(int)")
			}
			if got := resolved(t, x, typ(name)); !alikeOnes(got, want) {
				t.Errorf("%q: %s, not %s", name, shown(got), shown(want))
			}
		}
	}
}

func numbered(n int) api.Type { return typ("'v" + strconv.Itoa(100000+n)) }

// chains are orders in which the links of a chain may be made.
func chains(n int) map[string][]int {
	up := make([]int, n)
	for i := range up {
		up[i] = i
	}
	down := slices.Clone(up)
	slices.Reverse(down)
	var odd []int
	for i := range n {
		odd = append(odd, i*2%n+i*2/n*(1-n%2))
	}
	return map[string][]int{"up": up, "down": down, "odd": odd, "any": newGenerator(uint64(n)).Perm(n)}
}

// TestP9_2LongChains has variables of which each is unified with the next one, in some order, either way about.
func TestP9_2LongChains(t *testing.T) {
	const n = 40000
	for what, order := range chains(n) {
		for _, turned := range []bool{false, true} {
			x := unify.New()
			for _, i := range order {
				a, b := numbered(i), numbered(i+1)
				if turned {
					a, b = b, a
				}
				if e := x.Unify(a, b); e != api.OK {
					t.Fatal(what, e)
				}
			}
			for _, i := range []int{0, 1, n / 2, n - 1, n} {
				if got := resolved(t, x, numbered(i)); !alikeOnes(got, numbered(0)) {
					t.Errorf("%s: %s", what, shown(got))
				}
			}
			if e := x.Unify(numbered(n/3), typ("list", numbered(n))); e != api.ErrType {
				t.Errorf("%s, in itself: %v", what, e)
			}
			if e := x.Unify(numbered(n), of("list('other)")); e != api.OK {
				t.Errorf("%s: %v", what, e)
			}
			for _, i := range []int{0, n / 2, n} {
				if got := resolved(t, x, numbered(i)); !alikeOnes(got, of("list('other)")) {
					t.Errorf("%s: %s", what, shown(got))
				}
			}
		}
	}
}

// TestP9_2LongChainsOfTypes has variables each of which stands for a list of the next one.
func TestP9_2LongChainsOfTypes(t *testing.T) {
	const n = 3000
	for what, order := range chains(n) {
		x := unify.New()
		for _, i := range order {
			if e := x.Unify(numbered(i), typ("list", numbered(i+1))); e != api.OK {
				t.Fatal(what, e)
			}
		}
		for _, i := range []int{n, n - 1, n - 50, n - 63} {
			if got := resolved(t, x, numbered(i)); !alikeOnes(got, nested(n-i+1, numbered(n))) {
				t.Errorf("%s: %s", what, shown(got))
			}
		}
		if got, e := x.Resolve(numbered(n - 64)); e != api.ErrTooLarge || !alikeOnes(got, typ("")) {
			t.Errorf("%s, of 65 levels: %s, %v", what, shown(got), e)
		}
		for _, i := range []int{0, 1, n / 2, n - 1} {
			if e := x.Unify(numbered(n), numbered(i)); e != api.ErrType {
				t.Errorf("%s, in itself: %v", what, e)
			}
		}
		if e := x.Unify(numbered(n), of("text")); e != api.OK {
			t.Errorf("%s: %v", what, e)
		}
		if got := resolved(t, x, numbered(n-63)); !alikeOnes(got, nested(64, of("text"))) {
			t.Errorf("%s: %s", what, shown(got))
		}
	}
}

// TestP9_2WhatDoubles has types that double with each step, and unifies two of them.
func TestP9_2WhatDoubles(t *testing.T) {
	a := func(n int) api.Type { return typ("'a" + strconv.Itoa(n)) }
	b := func(n int) api.Type { return typ("'b" + strconv.Itoa(n)) }
	const n = 3000
	x := unify.New()
	for i := range n {
		if x.Unify(a(i+1), typ("t", a(i), a(i))) != api.OK || x.Unify(typ("t", b(i), b(i)), b(i+1)) != api.OK {
			t.Fatal(i)
		}
	}
	for i := range 11 {
		if got := resolved(t, x, a(i)); !alikeOnes(got, unify.Subst(branching(i+1), []string{"'x"}, []api.Type{a(0)})) {
			t.Errorf("%d: %s", i, shown(got))
		}
	}
	for i := 11; i <= n; i++ {
		if got, e := x.Resolve(a(i)); e != api.ErrTooLarge || !alikeOnes(got, typ("")) {
			t.Errorf("%d: %s, %v", i, shown(got), e)
		}
	}
	if e := x.Copy().Unify(a(n), b(n-1)); e != api.OK {
		t.Errorf("one step apart: %v", e)
	}
	if e := x.Copy().Unify(typ("t", a(n), a(n-1)), typ("t", b(n-1), b(n))); e != api.ErrType {
		t.Errorf("crosswise: %v", e)
	}
	if e := x.Copy().Unify(a(n), a(n-1)); e != api.ErrType {
		t.Errorf("in itself: %v", e)
	}
	if e := x.Unify(a(n), b(n)); e != api.OK {
		t.Errorf("two of them: %v", e)
	}
	for _, e := range []api.Errno{x.Unify(a(0), typ("t", b(0))), x.Unify(a(n), b(0)), x.Unify(b(n-1), a(n))} {
		if e != api.ErrType {
			t.Errorf("in itself: %v", e)
		}
	}
	if got := resolved(t, x, typ("t", b(0), a(0), b(1))); !alikeOnes(got, of("t('a0, 'a0, t('a0, 'a0))")) {
		t.Error(shown(got))
	}
}

// branching is a type of so many levels each of which has the next one twice, and 'x in the last one.
func branching(levels int) api.Type {
	if levels == 1 {
		return typ("'x")
	}
	return typ("t", branching(levels-1), branching(levels-1))
}

// checkAtLimit requires what a type is in which a variable stands for another type, if that is not too large.
func checkAtLimit(t *testing.T, bound, given api.Type, want api.Errno) {
	t.Helper()
	x := tableOf(t, "'c = 'a; 'd = t('c, 'b)")
	if e := x.Unify(typ("'c"), bound); e != api.OK {
		t.Fatal(e)
	}
	expected := typ("")
	if want == api.OK {
		expected = unify.Subst(given, []string{"'a"}, []api.Type{bound})
	}
	for range 2 {
		if got, e := x.Resolve(given); e != want || !alikeOnes(got, expected) {
			t.Errorf("%s in %s: %v, not %v: %s", shown(bound), shown(given), e, want, shown(got))
		}
	}
	checkResolved(t, x, "int, 'e", "int, 'e")
}

// TestP9_2ResolveOfManyLevels has types of up to one level more than there may be.
func TestP9_2ResolveOfManyLevels(t *testing.T) {
	for n := 2; n <= 64; n++ {
		for _, last := range types("int, 'e") {
			bound := nested(n, last)
			checkAtLimit(t, bound, nested(65-n, typ("'a")), api.OK)
			checkAtLimit(t, bound, nested(66-n, typ("'a")), api.ErrTooLarge)
			for _, s := range []string{"t('a, int)", "t(int, 'a)", "t('e, 'a, list('a))"} {
				within := of(s)
				levels := depthOf(within) - 1 + n
				if levels <= 64 {
					checkAtLimit(t, bound, nested(65-levels, within), api.OK)
				}
				if levels <= 65 {
					checkAtLimit(t, bound, nested(66-levels, within), api.ErrTooLarge)
				}
			}
		}
	}
}

// TestP9_2ResolveOfManyParts has types of up to one part more than there may be.
func TestP9_2ResolveOfManyParts(t *testing.T) {
	for _, n := range []int{2, 3, 10, 681, 682, 683, 1000, 1022, 1023, 1024, 2045, 2046, 2047, 2048} {
		for _, last := range types("int, 'e") {
			for times := 1; times*n <= 2200; times++ {
				for _, more := range []int{0, 1, 2, 100, 2047 - times*n - 1, 2047 - times*n, 2047 - times*n + 1, 2047 - times*n + 2} {
					if more < 0 || more > 2047 {
						continue
					}
					l := append(slices.Repeat(types("'a"), times), slices.Repeat(types("text"), more)...)
					if more%2 == 1 {
						slices.Reverse(l)
					}
					if len(l) > 2047 {
						continue
					}
					want := api.OK
					if 1+times*n+more > 2048 {
						want = api.ErrTooLarge
					}
					checkAtLimit(t, wide(n, last), typ("t", l...), want)
				}
				if times > 3 {
					times += 97
				}
			}
		}
	}
	checkAtLimit(t, wide(2048, typ("int")), typ("'a"), api.OK)
	checkAtLimit(t, wide(2048, typ("int")), typ("list", typ("'a")), api.ErrTooLarge)
	checkAtLimit(t, wide(2048, typ("int")), wide(2048, typ("'a")), api.ErrTooLarge)
}

func TestP9_2Copy(t *testing.T) {
	if (*unify.Table)(nil).Copy() != nil {
		t.Error("Copy of nil")
	}
	checkResolved(t, unify.New().Copy(), "'a, int", "'a, int")
	for _, turned := range []bool{false, true} {
		x := tableOf(t, "'a = int; 'b = list('c); 'd = 'e")
		y := x.Copy()
		if turned {
			x, y = y, x
		}
		checkUnify(t, x, "'c", "text", api.OK)
		checkUnify(t, x, "'f", "bool", api.OK)
		checkUnify(t, y, "'c", "'a", api.OK)
		checkUnify(t, y, "'e", "t('f, 'g)", api.OK)
		checkUnify(t, x, "'d", "'g", api.OK)
		checkUnify(t, y, "'g", "'h", api.OK)
		all := "'a, 'b, 'c, 'd, 'e, 'f, 'g, 'h"
		checkResolved(t, x, all, "int, list(text), text, 'd, 'd, bool, 'd, 'h")
		checkResolved(t, y, all, "int, list(int), int, t('f, 'g), t('f, 'g), 'f, 'g, 'g")
		z := y.Copy()
		checkUnify(t, y, "'f", "'e", api.ErrType)
		checkUnify(t, y, "'f", "'g", api.OK)
		checkUnify(t, z, "'f", "t('g)", api.OK)
		checkUnify(t, z, "t('g, 'd)", "t('f, 'd)", api.ErrType)
		checkResolved(t, x, all, "int, list(text), text, 'd, 'd, bool, 'd, 'h")
		checkResolved(t, y, all, "int, list(int), int, t('f, 'f), t('f, 'f), 'f, 'f, 'f")
		checkResolved(t, z, all, "int, list(int), int, t(t('g), 'g), t(t('g), 'g), t('g), 'g, 'g")
		checkVars(t, x, "'1 '2")
		checkVars(t, z, "'1")
		checkUnify(t, y, "'2", "'1", api.OK)
		checkVars(t, x, "'3")
		checkVars(t, y, "'3")
		checkVars(t, z, "'2")
	}
}
