package unify_test

import (
	"slices"
	"strconv"
	"strings"
	"testing"

	"corollary/api"
	"corollary/unify"
)

func TestP9_3May(t *testing.T) {
	for _, x := range valid() {
		if !unify.May(x) {
			t.Errorf("May(%s): false", shown(x))
		}
	}
	for _, x := range invalid() {
		if unify.May(x) {
			t.Errorf("May(%s): true", shown(x))
		}
	}
}

// TestP9_3MayAtItsLimits has types of each number of parts, and of levels, near the limits.
func TestP9_3MayAtItsLimits(t *testing.T) {
	if unify.MaxParts != 2048 {
		t.Errorf("MaxParts: %d", unify.MaxParts)
	}
	for levels := 1; levels <= 70; levels++ {
		for _, last := range types("int, 'a, t('a), t(int, int, t)") {
			x := nested(levels, last)
			for _, y := range []api.Type{x, typ("t", x), typ("t", typ("int"), typ("'a"), x), typ("t", x, typ("int")), typ("t", typ("int"), nested(70-levels, typ("int")))} {
				if unify.May(y) != (depthOf(y) <= 64) {
					t.Errorf("May of %d levels, %s: %t", depthOf(y), shown(y), unify.May(y))
				}
			}
		}
	}
	for parts := 2000; parts <= 2100; parts++ {
		for _, x := range []api.Type{wide(parts, typ("int")), typ("t", wide(parts/2, typ("'a")), wide(parts-1-parts/2, typ("tuple"))), nested(50, wide(parts-49, typ("'b"))), typ("t", wide(1000, typ("int")), nested(60, wide(parts-1060, typ("int"))))} {
			if unify.May(x) != (parts <= 2048) {
				t.Errorf("May of %d parts, %s: %t", parts, shown(x), unify.May(x))
			}
		}
	}
}

func depthOf(x api.Type) int {
	depth := 0
	for _, arg := range x.Args {
		depth = max(depth, depthOf(arg))
	}
	return depth + 1
}

func TestP9_3IsVar(t *testing.T) {
	for _, name := range []string{"'a", "'1", "''", "' ", "'_", "'A", "'abc", "'\x00", "'\xff", "'" + strings.Repeat("x", 5000)} {
		if !unify.IsVar(typ(name)) || !unify.IsVar(api.Type{Name: name, Args: make([]api.Type, 3)[:0]}) {
			t.Errorf("IsVar(%s): false", shown(typ(name)))
		}
		for _, x := range []api.Type{typ(name, typ("int")), typ(name, typ(name)), typ("list", typ(name)), typ(name[1:]), typ(name[1:] + "'"), typ("x" + name), typ(" " + name)} {
			if name != "''" && unify.IsVar(x) {
				t.Errorf("IsVar(%s): true", shown(x))
			}
		}
	}
	for _, x := range append(types("int, tuple, a', list('a), _"), typ(""), typ("'"), typ("", typ("'a")), typ("'", typ("'a")), typ("'a", typ("'a"), typ("'b")), endless("'a"), endless("list")) {
		if unify.IsVar(x) {
			t.Errorf("IsVar(%s): true", shown(x))
		}
	}
}

func TestP9_3Vars(t *testing.T) {
	for _, x := range [][2]string{
		{"int", ""}, {"'a", "'a"}, {"'a, 'a", "'a"}, {"'b, 'a", "'b 'a"}, {"tuple('b, 'a, 'b), 'c, 'a", "'b 'a 'c"}, {"t(t(t('d), 'c), 'b), 'a", "'d 'c 'b 'a"}, {"t('a, t('b, t('c, 'd), 'e), 'f)", "'a 'b 'c 'd 'e 'f"},
		{"int, a, a', tuple(b, tuple)", ""}, {"a('b, b('a)), b('c)", "'b 'a 'c"}, {"'1, '01, '10, '1, ''", "'1 '01 '10 ''"}, {"t('a, int, 'b), text, t(t, 'c)", "'a 'b 'c"},
	} {
		if got := unify.Vars(types(x[0])); !slices.Equal(got, strings.Fields(x[1])) {
			t.Errorf("Vars(%s): %q", x[0], got)
		}
	}
	if got := unify.Vars(nil); len(got) != 0 {
		t.Errorf("Vars of nothing: %q", got)
	}
	var many []api.Type
	var names []string
	for i := range 5000 {
		names = append(names, "'v"+strconv.Itoa(i*7919%5000))
		many = append(many, typ("t", typ(names[i]), typ(names[i/2])))
	}
	if got := unify.Vars(many); !slices.Equal(got, names) {
		t.Errorf("Vars of many: %d", len(got))
	}
	g := newGenerator(1)
	for range 2000 {
		l := someTypes(g)
		if got := unify.Vars(l); !slices.Equal(got, variablesIn(l...)) {
			t.Errorf("Vars(%s): %q", shown(l...), got)
		}
	}
}

// someTypes is a list of up to three types.
func someTypes(g *generator) []api.Type {
	return many(g, 0, 3, func() api.Type { return g.typed(1+g.IntN(5), append(allVars(), numberedVars()...)) })
}

func TestP9_3Subst(t *testing.T) {
	for _, x := range [][4]string{
		{"f('a, 'b)", "'a", "int", "f(int, 'b)"}, {"'a", "'a", "int", "int"}, {"'b", "'a", "int", "'b"}, {"f('a, 'a, f('a))", "'a", "t('a)", "f(t('a), t('a), f(t('a)))"},
		{"f('a, 'b)", "'a 'b", "'b, 'a", "f('b, 'a)"}, {"f('a, 'b)", "'b 'a", "int, text", "f(text, int)"}, {"f('a, 'b)", "'a 'b", "t('b), int", "f(t('b), int)"},
		{"f('a, 'b)", "'a 'a", "int, text", "f(int, 'b)"}, {"f('a, 'b)", "'a 'b 'a 'b", "int, text, bool, big", "f(int, text)"}, {"f('a, 'b)", "'c 'a 'b 'a", "int, text, bool", "f(text, bool)"}, {"f('a, 'b)", "'a 'b 'c", "int, text, bool, big, tuple", "f(int, text)"}, {"f('a, 'b)", "'c", "int, text, bool", "f('a, 'b)"},
		{"f('a, 'b)", "'a 'b", "int", "f(int, 'b)"}, {"f('a, 'b)", "'b 'a 'a 'a", "int", "f('a, int)"}, {"f('b, 'a)", "'a 'b 'b", "int, text", "f(text, int)"}, {"f('a, 'b)", "'c 'a 'b", "int", "f('a, 'b)"},
		{"f(int, a, a(int))", "int a f", "'x, 'y, 'z", "f(int, a, a(int))"}, {"f('a, a)", "a", "int", "f('a, a)"}, {"f('1, '01, '10)", "'01 ' 1", "int, text, bool", "f('1, int, '10)"}, {"int", "'a", "text", "int"},
	} {
		a, vars, by := of(x[0]), strings.Fields(x[1]), types(x[2])
		if got := unify.Subst(a, vars, by); !alikeOnes(got, of(x[3])) {
			t.Errorf("Subst(%s, %s, %s): %s, not %s", x[0], x[1], x[2], shown(got), x[3])
		}
	}
	a := of("f('a, 'b)")
	for _, vars := range [][]string{nil, {}, {"'a"}, {"'a", "'b"}, {""}, {"'"}, {"f"}} {
		if got := unify.Subst(a, vars, nil); !alikeOnes(got, a) {
			t.Errorf("Subst(%s, %q, nil): %s", shown(a), vars, shown(got))
		}
		if got := unify.Subst(a, nil, types("int, text")[:len(vars)]); !alikeOnes(got, a) {
			t.Errorf("Subst(%s, nil, %d types): %s", shown(a), len(vars), shown(got))
		}
	}
}

// TestP9_3SubstOfMuch has what is then more than a type may have: that is no matter.
func TestP9_3SubstOfMuch(t *testing.T) {
	got := unify.Subst(wide(2048, typ("'a")), []string{"'a"}, []api.Type{wide(2048, typ("int"))})
	if len(got.Args) != 2047 || slices.ContainsFunc(got.Args, func(x api.Type) bool { return len(x.Args) != 2047 }) || unify.May(got) {
		t.Errorf("of many parts: %d", len(got.Args))
	}
	got = unify.Subst(nested(64, typ("'a")), []string{"'a"}, []api.Type{nested(64, typ("'a"))})
	if !alikeOnes(got, nested(127, typ("'a"))) || unify.May(got) {
		t.Errorf("of many levels: %s", shown(got))
	}
}

// TestP9_3SubstOfAny replaces, in any type, variables one after another by others that occur nowhere, and these all at once.
func TestP9_3SubstOfAny(t *testing.T) {
	g := newGenerator(2)
	for range 3000 {
		x := g.typed(1+g.IntN(5), allVars())
		vars := many(g, 0, 10, func() string { return pick(g, append(allVars(), "int", "list", "")...) })
		by := many(g, 0, 10, func() api.Type { return g.typed(3, allVars()) })
		s := solution{}
		for i, name := range vars {
			if slices.Index(vars, name) == i && i < len(by) && isVariable(typ(name)) {
				s[name] = by[i]
			}
		}
		if got := unify.Subst(x, vars, by); !alikeOnes(got, s.applied(x)) {
			t.Errorf("Subst(%s, %q, %s): %s", shown(x), vars, shown(by...), shown(got))
		}
	}
}

func TestP9_3Canon(t *testing.T) {
	for _, x := range [][2]string{
		{"int", "int"}, {"'x", "'a"}, {"list('1), '1, '2", "list('a), 'a, 'b"}, {"'b, 'a", "'a, 'b"}, {"t('b, 'a, 'b), 'c, 'a", "t('a, 'b, 'a), 'c, 'b"}, {"a('b), b('a'), 'b", "a('a), b('b), 'a"}, {"t(t('z, int), 'y), 'z", "t(t('a, int), 'b), 'a"}, {"'a, 'b, 'c", "'a, 'b, 'c"}, {"'a1, 'a", "'a, 'b"},
	} {
		if got := unify.Canon(types(x[0])); !alike(got, types(x[1])) {
			t.Errorf("Canon(%s): %s, not %s", x[0], shown(got...), x[1])
		}
	}
	if got := unify.Canon(nil); len(got) != 0 {
		t.Errorf("Canon of nothing: %s", shown(got...))
	}
	names := strings.Fields("'a 'b 'c 'd 'e 'f 'g 'h 'i 'j 'k 'l 'm 'n 'o 'p 'q 'r 's 't 'u 'v 'w 'x 'y 'z")
	for round := 1; round <= 101; round++ {
		for _, name := range names[:26] {
			names = append(names, name+strconv.Itoa(round))
		}
	}
	if names[26] != "'a1" || names[51] != "'z1" || names[52] != "'a2" || names[285] != "'z10" || len(names) != 26*102 {
		t.Fatalf("%q", names)
	}
	for _, n := range []int{1, 2, 25, 26, 27, 51, 52, 53, 77, 78, 79, 259, 260, 261, 285, 286, 287, 2000, len(names)} {
		var given, want []api.Type
		for i := range n {
			other := i * 3 / 4
			given = append(given, typ("t", typ("'v"+strconv.Itoa(i)), typ("'v"+strconv.Itoa(other))))
			want = append(want, typ("t", typ(names[i]), typ(names[other])))
		}
		if got := unify.Canon(given); !alike(got, want) {
			t.Errorf("Canon of %d variables: %s", n, shown(got...))
		}
		one := typ("t", given[:min(n, 600)]...)
		if got := unify.Canon([]api.Type{one}); !alike(got, []api.Type{typ("t", want[:min(n, 600)]...)}) {
			t.Errorf("Canon of %d variables in one type: %s", n, shown(got...))
		}
	}
}

// TestP9_3CanonOfAny has any types: their Canon is that of the same ones with other variables, and its own.
func TestP9_3CanonOfAny(t *testing.T) {
	g := newGenerator(3)
	for range 2000 {
		l := someTypes(g)
		s := solution{}
		for i, name := range variablesIn(l...) {
			s[name] = typ("'" + string(rune('a'+i)))
		}
		var want []api.Type
		for _, x := range l {
			want = append(want, s.applied(x))
		}
		got := unify.Canon(l)
		other, e := unify.New().Fresh(l)
		if e != api.OK || !alike(got, want) || !alike(unify.Canon(got), want) || !alike(unify.Canon(other), want) {
			t.Errorf("Canon(%s): %s, not %s", shown(l...), shown(got...), shown(want...))
		}
	}
}

func TestP9_3Same(t *testing.T) {
	all := append(types("int, text, tuple, tuple(int), tuple(int, int), tuple(text), 'a, 'b, list('a), list('b), list(list('a)), t('a, 'b), t('b, 'a), t('a, 'a), t(t, t), t(t(t)), t(int, t(int)), t(t(int), int), u('a, 'b), t('a, 'b, 'c)"),
		typ(""), typ("'"), typ("", typ("int")), typ("'", typ("int")), typ("'a", typ("int")), typ("'a", typ("text")), typ("t", typ("")), typ("t", typ("'")), nested(64, typ("int")), nested(65, typ("int")), nested(66, typ("int")), nested(65, typ("'a")), nested(1<<16-1, typ("int")), nested(1<<16, typ("int")), nested(1<<16, typ("text")), wide(2048, typ("int")), wide(2049, typ("int")), wide(2050, typ("int")), wide(2049, typ("'a")), wide(10000, typ("int")), doubled(11), doubled(12))
	others := copied(all)
	for i, x := range all {
		for k, y := range others {
			if same := unify.Same(x, y); same != (i == k) {
				t.Errorf("Same(%s, %s): %t", shown(x), shown(y), same)
			}
		}
	}
	empty := typ("t", api.Type{Name: "int", Args: []api.Type{}}, typ("text"))
	if !unify.Same(empty, of("t(int, text)")) || !unify.Same(of("t(int, text)"), empty) {
		t.Error("an empty list is another one than none")
	}
	g := newGenerator(4)
	for range 5000 {
		x := g.typed(4, allVars())
		y := g.changed(x, allVars())
		if unify.Same(x, y) != alikeOnes(x, y) || !unify.Same(y, copied(y)) {
			t.Errorf("Same(%s, %s): %t", shown(x), shown(y), unify.Same(x, y))
		}
	}
}

// TestP9_3OfWhatIsInvalid has an invalid type alone, and at each place among others.
func TestP9_3OfWhatIsInvalid(t *testing.T) {
	good := types("list('a), 'b, 'a")
	for _, wrong := range invalid() {
		for i := range 4 {
			l := slices.Insert(slices.Clone(good), i, wrong)
			if vars := unify.Vars(l); len(vars) != 0 {
				t.Errorf("Vars(%s): %q", shown(l...), vars)
			}
			if got := unify.Subst(good[0], []string{"'a"}, l); !alikeOnes(got, good[0]) {
				t.Errorf("Subst by %s: %s", shown(l...), shown(got))
			}
			if got := unify.Subst(good[0], nil, l); !alikeOnes(got, good[0]) {
				t.Errorf("Subst of nothing by %s: %s", shown(l...), shown(got))
			}
		}
		if vars := unify.Vars([]api.Type{wrong}); len(vars) != 0 {
			t.Errorf("Vars(%s): %q", shown(wrong), vars)
		}
	}
}

// TestP9_3AsTheyWereGiven has invalid types that have an end.
func TestP9_3AsTheyWereGiven(t *testing.T) {
	good := types("list('b), 'c, 'b")
	finite := append(types("t('b, ), t('b, '), t('c, 'a(int)), t('a('b), 'c)"), typ(""), typ("'"), typ("'b", typ("'c")), around(63, typ("")), around(70, typ("'b")), nested(65, typ("'b")), nested(5000, typ("'b")), nested(1<<16, typ("'b")), wide(2049, typ("'b")), wide(100000, typ("'b")), doubled(12), doubled(20))
	for _, wrong := range finite {
		for _, by := range [][]api.Type{nil, types("int, text, bool"), {wrong, wrong, wrong}} {
			if got := unify.Subst(wrong, []string{"'b", "'c", "'a"}, by); !alikeOnes(got, wrong) {
				t.Errorf("Subst(%s): %s", shown(wrong), shown(got))
			}
		}
		for i := range 4 {
			l := slices.Insert(slices.Clone(good), i, wrong)
			if got := unify.Canon(l); !alike(got, l) {
				t.Errorf("Canon(%s): %s", shown(l...), shown(got...))
			}
		}
		if got := unify.Canon([]api.Type{wrong, wrong}); !alike(got, []api.Type{wrong, wrong}) {
			t.Errorf("Canon(%s, twice): %s", shown(wrong), shown(got...))
		}
	}
}
