package unify_test

import (
	"testing"

	"corollary/api"
	"corollary/unify"
)

// checkErrors requires errors of the three calls that return one, and that they return nothing else.
func checkErrors(t *testing.T, x *unify.Table, a, b api.Type, unified, resolved, fresh api.Errno) {
	t.Helper()
	if e := x.Unify(a, b); e != unified {
		t.Errorf("Unify(%s, %s): %v, not %v", shown(a), shown(b), e, unified)
	}
	if got, e := x.Resolve(a); e != resolved || e != api.OK && !alikeOnes(got, typ("")) {
		t.Errorf("Resolve(%s): %s, %v, not %v", shown(a), shown(got), e, resolved)
	}
	if got, e := x.Fresh([]api.Type{b, a}); e != fresh || e != api.OK && len(got) != 0 {
		t.Errorf("Fresh(%s, %s): %s, %v, not %v", shown(b), shown(a), shown(got...), e, fresh)
	}
}

func TestErrorsNil(t *testing.T) {
	var x *unify.Table
	for _, a := range append(invalid(), types("int, 'a, list('a)")...) {
		checkErrors(t, x, a, typ("text"), api.ErrNil, api.ErrNil, api.ErrNil)
		checkErrors(t, x, a, a, api.ErrNil, api.ErrNil, api.ErrNil)
	}
	if got, e := x.Fresh(nil); e != api.ErrNil || len(got) != 0 {
		t.Errorf("Fresh of nothing: %v", e)
	}
	if x.Copy() != nil || !alikeOnes(x.Var(), typ("")) {
		t.Error("nil has a copy, or a variable")
	}
}

// TestErrorsForm has an invalid type as either one, with what can't be unified, or is too large, besides.
func TestErrorsForm(t *testing.T) {
	x := tableOf(t, "'a = int")
	if e := x.Unify(typ("'big"), wide(2048, typ("int"))); e != api.OK {
		t.Fatal(e)
	}
	for _, wrong := range invalid() {
		for _, other := range append(types("int, 'a, t('a, 'b), 'big"), nested(64, typ("int")), wrong, typ(""), nested(65, typ("int"))) {
			checkErrors(t, x, wrong, other, api.ErrForm, api.ErrForm, api.ErrForm)
			if e := x.Unify(other, wrong); e != api.ErrForm {
				t.Errorf("Unify(%s, %s): %v", shown(other), shown(wrong), e)
			}
			if got, e := x.Fresh([]api.Type{other, other, wrong, other}); e != api.ErrForm || len(got) != 0 {
				t.Errorf("Fresh(.., %s, ..): %v", shown(wrong), e)
			}
		}
	}
	for _, wrong := range []api.Type{typ("t", typ("'big"), typ("'big"), typ("")), typ("t", typ("'"), typ("'big"))} {
		checkErrors(t, x, wrong, typ("int"), api.ErrForm, api.ErrForm, api.ErrForm)
	}
	checkResolved(t, x, "'a, 'b, t('b)", "int, 'b, t('b)")
	checkVars(t, x, "'1")
}

func TestErrorsType(t *testing.T) {
	x := unify.New()
	checkErrors(t, x, typ("int"), typ("text"), api.ErrType, api.OK, api.OK)
	checkErrors(t, x, typ("'a"), typ("list", typ("'a")), api.ErrType, api.OK, api.OK)
	checkErrors(t, x, nested(64, typ("int")), nested(64, typ("text")), api.ErrType, api.OK, api.OK)
	checkErrors(t, x, wide(2048, typ("int")), wide(2047, typ("int")), api.ErrType, api.OK, api.OK)
	checkErrors(t, x, nested(64, typ("'a")), nested(63, typ("'a")), api.ErrType, api.OK, api.OK)
	checkErrors(t, x, wide(2048, typ("'a")), typ("tuple", append(wide(2047, typ("int")).Args, typ("text"))...), api.ErrType, api.OK, api.OK)
	for _, a := range valid() {
		for _, b := range types("other, other(other), t(other), list(int, int, int)") {
			if isVariable(a) {
				continue
			}
			checkErrors(t, x, a, b, api.ErrType, api.OK, api.OK)
		}
		checkErrors(t, x, a, a, api.OK, api.OK, api.OK)
	}
}

// TestErrorsTooLarge has what is too large when it is resolved: for Resolve alone.
func TestErrorsTooLarge(t *testing.T) {
	x := unify.New()
	if x.Unify(typ("'p"), wide(2048, typ("int"))) != api.OK || x.Unify(typ("'d"), nested(64, typ("int"))) != api.OK || x.Unify(typ("'more"), of("t('p, 'd)")) != api.OK {
		t.Fatal("what is not too large itself")
	}
	for _, a := range types("list('p), list('d), 'more, t('a, 'b, list('d)), t('p, 'a), t(list('more))") {
		checkErrors(t, x, a, a, api.OK, api.ErrTooLarge, api.OK)
	}
	checkErrors(t, x, of("t('d, 'd)"), typ("'more"), api.ErrType, api.ErrTooLarge, api.OK)
	checkErrors(t, x, of("t('e, 'd)"), typ("'more"), api.OK, api.ErrTooLarge, api.OK)
	if got := resolved(t, x, typ("'e")); !alikeOnes(got, wide(2048, typ("int"))) {
		t.Error(shown(got))
	}
}
