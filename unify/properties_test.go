package unify_test

import (
	"slices"
	"strings"
	"testing"

	"corollary/api"
	"corollary/unify"
)

// state is what all variables stand for in a table, resolved; of a too large one, its error.
func state(x *unify.Table, vars []string) []api.Type {
	var l []api.Type
	for _, name := range vars {
		got, e := x.Resolve(typ(name))
		if e != api.OK {
			got = typ(e.Error())
		}
		l = append(l, got)
	}
	return l
}

// checkOnce requires that pairs that were unified are the same, resolved, and that unifying them again changes nothing.
func checkOnce(t *testing.T, x *unify.Table, unified []pair) {
	t.Helper()
	for _, p := range unified {
		before := state(x, allVars())
		a, b := resolved(t, x, p.a), resolved(t, x, p.b)
		if !unify.Same(a, b) || x.Unify(p.a, p.b) != api.OK || x.Unify(p.b, p.a) != api.OK || x.Unify(a, p.b) != api.OK || x.Unify(p.a, p.a) != api.OK {
			t.Errorf("%s and %s: %s and %s", shown(p.a), shown(p.b), shown(a), shown(b))
		}
		if !alike(state(x, allVars()), before) {
			t.Errorf("%s and %s have changed something", shown(p.a), shown(p.b))
		}
	}
}

// TestP9_4Unified has many pairs: after each of them all earlier ones remain the same.
func TestP9_4Unified(t *testing.T) {
	g := newGenerator(5)
	refused, bound := 0, 0
	for range 1500 {
		x := unify.New()
		var unified []pair
		for _, p := range g.pairs(1, 6, allVars()) {
			before := state(x, allVars())
			if e := x.Unify(p.a, p.b); e == api.OK {
				unified = append(unified, p)
			} else if refused++; e != api.ErrType || !alike(state(x, allVars()), before) {
				t.Errorf("%s and %s: %v, and something has changed", shown(p.a), shown(p.b), e)
			}
			if !alike(state(x, allVars()), before) {
				bound++
			}
			checkOnce(t, x, unified)
		}
	}
	if refused < 500 || bound < 1500 {
		t.Errorf("not much was tried: %d were refused, %d have bound something", refused, bound)
	}
}

// abstract is a type that becomes another one where each variable stands for what a solution says: it has variables in the place of some parts.
func (g *generator) abstract(x api.Type, s solution) api.Type {
	if !g.chance(3) {
		for _, name := range allVars() {
			if alikeOnes(s[name], x) && g.chance(2) {
				return typ(name)
			}
		}
	}
	result := typ(x.Name)
	for _, arg := range x.Args {
		result.Args = append(result.Args, g.abstract(arg, s))
	}
	return result
}

// TestP9_5MostGeneral has types for all variables by which pairs become the same: these are unified, and what is resolved becomes the same as what it was resolved from.
func TestP9_5MostGeneral(t *testing.T) {
	g := newGenerator(6)
	open := 0
	for range 1500 {
		s := solution{}
		for _, name := range allVars() {
			s[name] = g.typed(1+g.IntN(3), []string{"'x", "'y"})
		}
		for name := range s {
			if g.chance(3) {
				s[name] = s[pick(g, allVars()...)]
			}
		}
		x := unify.New()
		for range 5 {
			whole := s.applied(g.typed(1+g.IntN(4), allVars()))
			a, b := g.abstract(whole, s), g.abstract(whole, s)
			if e := x.Unify(a, b); e != api.OK {
				t.Fatalf("Unify(%s, %s): %v", shown(a), shown(b), e)
			}
			for _, p := range []api.Type{a, b, whole, g.typed(4, allVars())} {
				r := resolved(t, x, p)
				if !alikeOnes(s.applied(r), s.applied(p)) || !alikeOnes(resolved(t, x, r), r) {
					t.Errorf("%s, resolved: %s", shown(p), shown(r))
				}
				if len(variablesIn(r)) > 0 {
					open++
				}
			}
		}
	}
	if open < 3000 {
		t.Errorf("not much was tried: %d have variables", open)
	}
}

// outcome tells whether all pairs are unified, and what all variables then stand for.
func outcome(pairs []pair) (bool, []api.Type) {
	x := unify.New()
	for _, p := range pairs {
		if x.Unify(p.a, p.b) != api.OK {
			return false, nil
		}
	}
	return true, state(x, allVars())
}

// orders are all those of a list.
func orders[T any](l []T) [][]T {
	if len(l) == 0 {
		return [][]T{nil}
	}
	var all [][]T
	for i, x := range l {
		for _, rest := range orders(slices.Delete(slices.Clone(l), i, i+1)) {
			all = append(all, append([]T{x}, rest...))
		}
	}
	return all
}

// TestP9_6AnyOrder has up to four pairs in every order, and each of them either way about.
func TestP9_6AnyOrder(t *testing.T) {
	g := newGenerator(7)
	can, cannot := 0, 0
	for range 300 {
		pairs := g.pairs(1, 4, allVars())
		all, want := outcome(pairs)
		if all {
			can++
		} else {
			cannot++
		}
		for _, order := range orders(pairs) {
			for turned := range 1 << len(order) {
				for i, p := range order {
					if turned>>i&1 == 1 {
						order[i] = pair{p.b, p.a}
					}
				}
				if is, got := outcome(order); is != all || !alike(got, want) {
					t.Errorf("%t, not %t: %s, not %s", is, all, shown(got...), shown(want...))
				}
			}
		}
	}
	if can < 100 || cannot < 50 {
		t.Errorf("not much was tried: %d can be unified, %d can't", can, cannot)
	}
}

// TestP9_6WithWhatIsRefused has pairs among which one can't be unified: without it, or with it at any place, the others are the same.
func TestP9_6WithWhatIsRefused(t *testing.T) {
	g := newGenerator(8)
	vars := strings.Fields("'a 'b 'c")
	tried := 0
	for tried < 300 {
		pairs := g.pairs(2, 5, vars)
		if all, _ := outcome(pairs); !all {
			continue
		}
		wrong := pair{g.typed(3, vars), g.typed(3, vars)}
		if all, _ := outcome([]pair{wrong}); all {
			continue
		}
		tried++
		_, want := outcome(pairs)
		for i := range len(pairs) + 1 {
			x := unify.New()
			for _, p := range slices.Insert(slices.Clone(pairs), i, wrong) {
				x.Unify(p.a, p.b)
			}
			if got := state(x, allVars()); !alike(got, want) {
				t.Errorf("%s and %s at %d: %s, not %s", shown(wrong.a), shown(wrong.b), i, shown(got...), shown(want...))
			}
		}
	}
}

// TestP9_2LikeTheOracle makes any calls of some tables, copies among them, and holds all that they return against an independent reading.
func TestP9_2LikeTheOracle(t *testing.T) {
	g := newGenerator(9)
	vars := append(allVars()[:4], numberedVars()...)
	for range 400 {
		tables, oracles := []*unify.Table{unify.New()}, []*oracle{newOracle()}
		for range 30 {
			i := g.IntN(len(tables))
			x, o := tables[i], oracles[i]
			switch g.IntN(8) {
			case 0:
				if len(tables) < 4 {
					tables, oracles = append(tables, x.Copy()), append(oracles, o.copy())
				}
			case 1:
				if got, want := x.Var(), o.newVar(); !alikeOnes(got, want) {
					t.Fatalf("Var: %s, not %s", shown(got), shown(want))
				}
			case 2:
				l := many(g, 0, 3, func() api.Type { return g.typed(3, vars) })
				if got, e := x.Fresh(l); e != api.OK || !alike(got, o.fresh(l)) {
					t.Fatalf("Fresh(%s): %s, %v", shown(l...), shown(got...), e)
				}
			case 3:
				a := g.typed(3, vars)
				if got, e := x.Resolve(a); e != api.OK || !alikeOnes(got, o.resolve(a)) {
					t.Fatalf("Resolve(%s): %s, %v, not %s", shown(a), shown(got), e, shown(o.resolve(a)))
				}
			default:
				p := g.pairs(1, 1, vars)[0]
				if e := x.Unify(p.a, p.b); e != o.unify(p.a, p.b) {
					t.Fatalf("Unify(%s, %s): %v", shown(p.a), shown(p.b), e)
				}
			}
		}
		for i, x := range tables {
			for _, name := range vars {
				if got, want := resolved(t, x, typ(name)), oracles[i].resolve(typ(name)); !alikeOnes(got, want) {
					t.Fatalf("%s: %s, not %s", name, shown(got), shown(want))
				}
			}
		}
	}
}
