package unify_test

import (
	"slices"
	"strconv"
	"strings"
	"testing"

	"corollary/api"
	"corollary/unify"
)

// checkVars requires which new variables are returned, one after another.
func checkVars(t *testing.T, x *unify.Table, want string) {
	t.Helper()
	for _, name := range strings.Fields(want) {
		if got := x.Var(); !alikeOnes(got, typ(name)) {
			t.Errorf("Var: %s, not %s", shown(got), name)
		}
	}
}

// ways are those in which a table is given types.
func ways() map[string]func(t *testing.T, x *unify.Table, l ...api.Type) {
	return map[string]func(t *testing.T, x *unify.Table, l ...api.Type){
		"Unify, the first one": func(t *testing.T, x *unify.Table, l ...api.Type) {
			if e := x.Unify(typ("t", l...), typ("'other"+shown(l...))); e != api.OK {
				t.Error(e)
			}
		},
		"Unify, the second one": func(t *testing.T, x *unify.Table, l ...api.Type) {
			if e := x.Unify(typ("'other"+shown(l...)), typ("t", l...)); e != api.OK {
				t.Error(e)
			}
		},
		"Unify, both": func(t *testing.T, x *unify.Table, l ...api.Type) {
			if e := x.Unify(typ("t", l...), typ("t", l...)); e != api.OK {
				t.Error(e)
			}
		},
		"Unify, refused": func(t *testing.T, x *unify.Table, l ...api.Type) {
			if e := x.Unify(typ("t", l...), typ("int")); e != api.ErrType {
				t.Error(e)
			}
			if e := x.Unify(typ("int"), typ("t", l...)); e != api.ErrType {
				t.Error(e)
			}
		},
		"Resolve": func(t *testing.T, x *unify.Table, l ...api.Type) {
			if _, e := x.Resolve(typ("t", l...)); e != api.OK {
				t.Error(e)
			}
		},
		"Resolve, refused": func(t *testing.T, x *unify.Table, l ...api.Type) {
			if e := x.Unify(typ("'deep"), nested(64, typ("int"))); e != api.OK {
				t.Error(e)
			}
			if _, e := x.Resolve(typ("t", append(slices.Clone(l), typ("list", typ("'deep")))...)); e != api.ErrTooLarge {
				t.Error(e)
			}
		},
	}
}

func TestP9_1New(t *testing.T) {
	x := unify.New()
	if x == nil {
		t.Fatal("nil")
	}
	checkResolved(t, x, "'a, int, list('b, 'a), '1", "'a, int, list('b, 'a), '1")
	checkVars(t, unify.New(), "'1 '2 '3 '4 '5 '6 '7 '8 '9 '10 '11 '12")
	if got := (*unify.Table)(nil).Var(); !alikeOnes(got, typ("")) {
		t.Errorf("Var of nil: %s", shown(got))
	}
}

func TestP9_1VarBesideWhatWasGiven(t *testing.T) {
	for _, c := range [][2]string{
		{"int, 'a", "'1 '2"}, {"'1", "'2 '3"}, {"'2", "'1 '3 '4"}, {"'1, '2, '3, '5", "'4 '6 '7"}, {"'3, '2, list('1)", "'4 '5"}, {"t('2, t('4, int, t('6)), '5)", "'1 '3 '7 '8"}, {"'8, '9, '10, '11", "'1 '2 '3 '4 '5 '6 '7 '12 '13"}, {"'10, '12", "'1 '2 '3 '4 '5 '6 '7 '8 '9 '11 '13"}, {"'1, '1, '1", "'2 '3"},
		{"'01, '02, '003, '0, '00", "'1 '2 '3 '4"}, {"'1, '02, '3", "'2 '4"}, {"1, 2, a1, a'1", "'1 '2"}, {"''1, '1a, 'a1, '-1, '+2, '1_0, ' 3, '4.", "'1 '2 '3 '4 '5"}, {"'1e0, '0x1, '0b1, '1.0, '\u0661", "'1 '2"},
		{"'9223372036854775807, '9223372036854775808, '18446744073709551617, '4294967297, '99999999999999999999999999999999", "'1 '2 '3"}, {"'-9223372036854775808, '-1, '-0", "'1 '2"},
	} {
		for what, give := range ways() {
			x := unify.New()
			give(t, x, types(c[0])...)
			if checkVars(t, x, c[1]); t.Failed() {
				t.Fatalf("%s of %s", what, c[0])
			}
		}
	}
	x := unify.New()
	var many []api.Type
	for n := 1; n <= 2000; n++ {
		many = append(many, typ("'"+strconv.Itoa(n*7%2003)))
	}
	x.Resolve(typ("t", many...))
	checkVars(t, x, "'1989 '1996 '2003 '2004")
}

// TestP9_1VarAfterOthers has variables given before, between and after those that are returned.
func TestP9_1VarAfterOthers(t *testing.T) {
	for what, give := range ways() {
		x := unify.New()
		checkVars(t, x, "'1 '2")
		give(t, x, types("'1, '2, '4")...)
		checkVars(t, x, "'3 '5")
		give(t, x, types("'1, '3, '6")...)
		give(t, x, types("'7, '6")...)
		checkVars(t, x, "'8")
		give(t, x, types("'8, '9, '11")...)
		checkVars(t, x, "'10 '12")
		give(t, x, types("'11, '12, '14")...)
		other := x.Copy()
		checkVars(t, other, "'13 '15")
		give(t, other, types("'17, '16")...)
		checkVars(t, other, "'18")
		checkVars(t, x, "'13 '15 '16")
		if t.Failed() {
			t.Fatal(what)
		}
	}
}

// TestP9_1VarOfWhatIsNoType has what is invalid: nothing has changed by it.
func TestP9_1VarOfWhatIsNoType(t *testing.T) {
	x := unify.New()
	one := typ("'1")
	for _, wrong := range append(invalid(), typ("t", one, typ("")), typ("t", one, typ("'1", one)), wide(3000, one), nested(65, one)) {
		x.Unify(wrong, one)
		x.Unify(one, wrong)
		x.Fresh([]api.Type{one, wrong, one})
		x.Resolve(wrong)
	}
	checkVars(t, x, "'1 '2")
}

func TestP9_1Fresh(t *testing.T) {
	for _, c := range [][2]string{
		{"list('x), 'x, 'y", "list('1), '1, '2"}, {"int", "int"}, {"'a", "'1"}, {"'a, 'a", "'1, '1"}, {"'b, 'a, 'b", "'1, '2, '1"}, {"t(t('c, 'b), 'c, int), u('a, 'b)", "t(t('1, '2), '1, int), u('3, '2)"}, {"int, list(int)", "int, list(int)"},
		{"'1", "'2"}, {"'2, '1", "'3, '4"}, {"'2, '2", "'1, '1"}, {"'2, 'a, '3", "'1, '4, '5"}, {"'01, '1", "'2, '3"}, {"t('a, a, a('a))", "t('1, a, a('1))"}, {"'9, '8, '7, '6, '5, '4, '3, '2, '1", "'10, '11, '12, '13, '14, '15, '16, '17, '18"},
	} {
		if got, e := unify.New().Fresh(types(c[0])); e != api.OK || !alike(got, types(c[1])) {
			t.Errorf("Fresh(%s): %s, %v, not %s", c[0], shown(got...), e, c[1])
		}
	}
	for _, l := range [][]api.Type{nil, {}, types("'1")[:0]} {
		if got, e := unify.New().Fresh(l); e != api.OK || len(got) != 0 {
			t.Errorf("Fresh of nothing: %s, %v", shown(got...), e)
		}
	}
	for _, l := range valid() {
		got, e := unify.New().Fresh([]api.Type{l})
		if e != api.OK || !alike(unify.Canon(got), unify.Canon([]api.Type{l})) {
			t.Errorf("Fresh(%s): %s, %v", shown(l), shown(got...), e)
		}
	}
}

// TestP9_1FreshAfterOthers has it beside what else was done: it is new, whatever its variables stand for.
func TestP9_1FreshAfterOthers(t *testing.T) {
	x := tableOf(t, "'a = int; 'b = list('3)")
	checkFresh := func(given, want string) {
		t.Helper()
		if got, e := x.Fresh(types(given)); e != api.OK || !alike(got, types(want)) {
			t.Errorf("Fresh(%s): %s, %v, not %s", given, shown(got...), e, want)
		}
	}
	checkFresh("t('a, 'b), 'c", "t('1, '2), '4")
	checkVars(t, x, "'5")
	checkFresh("'a, '5, '7", "'6, '8, '9")
	checkResolved(t, x, "'1, '2, '6, '8, 'a, 'b", "'1, '2, '6, '8, int, list('3)")
	checkUnify(t, x, "'1", "list('2)", api.OK)
	checkUnify(t, x, "'2", "text", api.OK)
	checkFresh("'1, list('2)", "'10, list('11)")
	checkResolved(t, x, "t('1, '10, '11), 'b", "t(list(text), '10, '11), list('3)")
	other := x.Copy()
	checkFresh("'a", "'12")
	x = other
	checkFresh("'20, '14, 'a", "'12, '13, '15")
	checkVars(t, x, "'16 '17 '18 '19 '21")
}
