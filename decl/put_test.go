package decl_test

import (
	"slices"
	"strings"
	"testing"

	"corollary/api"
	"corollary/decl"
)

func checkPut(t *testing.T, x, params, args, want string) {
	t.Helper()
	var l []api.Type
	if args != "" {
		l = types(args)
	}
	if got := decl.Put(of(x), strings.Fields(params), l); !sameType(got, of(want)) {
		t.Errorf("Put(%s, %s, %s): %s, not %s", x, params, args, shown(got), want)
	}
}

func TestP10_2Put(t *testing.T) {
	for _, c := range [][4]string{
		{"int", "", "", "int"}, {"'a", "", "", "'a"}, {"'a", "'a", "int", "int"}, {"'a", "'b", "int", "'a"}, {"list('a)", "'a", "int", "list(int)"}, {"tuple('a, 'b)", "'a 'b", "int, text", "tuple(int, text)"}, {"tuple('a, 'b)", "'b 'a", "int, text", "tuple(text, int)"}, {"tuple('a, 'b, 'c)", "'b", "int", "tuple('a, int, 'c)"},
		// A parameter that is there twice: in the type, and among the parameters.
		{"tuple('a, list('a), 'a)", "'a", "list(int)", "tuple(list(int), list(list(int)), list(int))"}, {"'a", "'a 'a", "int, text", "int"}, {"tuple('a, 'b)", "'b 'a 'b 'a", "int, text, big, bool", "tuple(text, int)"}, {"tuple('a, 'b)", "'a 'a 'b 'b", "int, text, big, bool", "tuple(int, big)"},
		// More parameters than args, and the other way about.
		{"'a", "'a", "", "'a"}, {"tuple('a, 'b)", "'a 'b", "int", "tuple(int, 'b)"}, {"tuple('a, 'b)", "'b 'c 'a", "int, text", "tuple('a, int)"}, {"tuple('a, 'b)", "'b 'a 'b", "int", "tuple('a, int)"}, {"tuple('a, 'b)", "'a", "int, text", "tuple(int, 'b)"}, {"'a", "", "int", "'a"}, {"'b", "'a 'a 'b", "int, text", "'b"}, {"'a", "'b 'a 'a", "int", "'a"},
		// What is put in is not replaced any further.
		{"'a", "'a", "list('a)", "list('a)"}, {"tuple('a, 'b)", "'a 'b", "'b, 'a", "tuple('b, 'a)"}, {"tuple('a, list('b))", "'a 'b", "tuple('a, 'b), 'c", "tuple(tuple('a, 'b), list('c))"}, {"list('a)", "'a 'b", "list('b), int", "list(list('b))"},
		// What is no parameter is not replaced, nor what only begins like one.
		{"int", "int", "text", "int"}, {"tuple(a, 'a, list(a))", "a 'a list tuple", "int, text, int, int", "tuple(a, text, list(a))"}, {"tuple('aa, 'a, ')", "'a", "int", "tuple('aa, int, ')"}, {"tuple(', 'a)", "' 'aa", "int, text", "tuple(int, 'a)"}, {"''", "'' '", "int, text", "int"},
		// A parameter has its Args replaced with it; what else is ill-formed remains as it is.
		{"'a(int)", "'a", "text", "text"}, {"list('a('b, 'a))", "'a 'b", "text, int", "list(text)"}, {"'a('b)", "'b", "int", "'a(int)"}, {"int('a)", "'a", "text", "int(text)"}, {"tuple('a)", "'a", "int(int)", "tuple(int(int))"}, {"", "'a", "int", ""}, {"nope('a, nope)", "'a", "", "nope('a, nope)"},
	} {
		checkPut(t, c[0], c[1], c[2], c[3])
	}
}

// TestP10_2PutAtEachDepth has a parameter at each depth, and types that are deep put there.
func TestP10_2PutAtEachDepth(t *testing.T) {
	for levels := 1; levels < 200; levels++ {
		for _, by := range []api.Type{typ("int"), nested(levels, "list", typ("'a")), nestedTuple(70, typ("text"))} {
			if got := decl.Put(nested(levels, "list", typ("'a")), []string{"'a"}, []api.Type{by}); !sameType(got, nested(levels, "list", by)) {
				t.Errorf("%d levels: %s", levels, shown(got))
			}
			if got := decl.Put(nestedTuple(levels, typ("'a")), []string{"'b", "'a"}, []api.Type{typ("big"), by}); !sameType(got, nestedTuple(levels, by)) {
				t.Errorf("%d levels of tuples: %s", levels, shown(got))
			}
			if got := decl.Put(nestedTuple(levels, typ("'a")), []string{"'b", "'a"}, []api.Type{by}); !sameType(got, nestedTuple(levels, typ("'a"))) {
				t.Errorf("%d levels of tuples: %s", levels, shown(got))
			}
		}
	}
}

// TestP10_2PutAtTheBound has a type that is as deep as what a program is given may be, and another one put at its end.
func TestP10_2PutAtTheBound(t *testing.T) {
	const most = 1 << 16
	got := decl.Put(nested(most, "list", typ("'a")), []string{"'a"}, []api.Type{nested(most, "box", typ("'a"))})
	for i := range 2*most - 2 {
		if want := []string{"list", "box"}[i/(most-1)]; got.Name != want || len(got.Args) != 1 {
			t.Fatalf("at level %d: %q with %d Args", i, got.Name, len(got.Args))
		}
		got = got.Args[0]
	}
	if !sameType(got, typ("'a")) {
		t.Errorf("the last one: %s", shown(got))
	}
}

// TestP10_2PutAsText holds Put against the replacement of names in texts.
func TestP10_2PutAsText(t *testing.T) {
	g := newGenerator(4)
	m := moduleOf(t, several)
	for range 5000 {
		names := g.some(0, 4, "'a 'b 'c 'd 'e")
		x := g.typed(m, []string{"'a", "'b", "'c", "'d"}, 4)
		args := many(g, 0, 4, func() api.Type { return g.typed(m, []string{"'a", "'b", "'e"}, 3) })
		var pairs []string
		for i := range min(len(names), len(args)) {
			pairs = append(pairs, names[i], shown(args[i]))
		}
		want := strings.NewReplacer(pairs...).Replace(shown(x))
		names = append(names, names...)
		if got := shown(decl.Put(x, names, args[:min(len(args), len(names)/2)])); got != want {
			t.Errorf("Put(%s, %s, %s): %s, not %s", shown(x), names, shown(args...), got, want)
		}
	}
}

// TestP10_2PutIsWhatValuesHave has a constructor's values: they have the types of its fields, the Args replacing the Params.
func TestP10_2PutIsWhatValuesHave(t *testing.T) {
	g := newGenerator(5)
	seen := 0
	for range 3000 {
		m := g.accepted()
		x := made(t, m)
		d := pick(g, m.Types...)
		var args []api.Type
		for range d.Params {
			args = append(args, g.typed(m, nil, 2))
		}
		v, ok := g.valueOf(m, typ(d.Name, args...), 6)
		if !ok || len(v.L) == 0 {
			continue
		}
		seen++
		k, _ := x.Cons(v.S)
		i := g.IntN(len(v.L))
		v.L[i] = g.changed(m, v.L[i])
		want := !slices.ContainsFunc(k.Fields, func(f api.FieldDef) bool { return f.Type.Name == "" })
		for i, f := range k.Fields {
			want = want && x.Is(v.L[i], decl.Put(f.Type, k.Params, args))
		}
		if got := x.Is(v, typ(d.Name, args...)); got != want {
			t.Errorf("Is(%s, %s): %v", textOf(v), shown(typ(d.Name, args...)), got)
		}
	}
	if seen < 500 {
		t.Errorf("%d values", seen)
	}
}
