package module_test

import (
	"reflect"
	"slices"
	"strings"
	"testing"

	"corollary/api"
	"corollary/module"
)

// usedElsewhere is where another module first uses a name of a module, by its kind.
func usedElsewhere(l []api.Module, of string, kind int, name string) (module.Where, bool) {
	for _, m := range l {
		for _, x := range usesIn(&m) {
			if m.Name != of && x.kind == kind && *x.name == of+"."+name {
				return whereIn(m.Name, x.pos), true
			}
		}
	}
	return module.Where{}, false
}

// typeUsedElsewhere is where another module first uses a type or one of its constructors.
func typeUsedElsewhere(l []api.Module, of string, d api.TypeDef) bool {
	_, used := usedElsewhere(l, of, ofType, d.Name)
	return used || slices.ContainsFunc(d.Cons, func(c api.ConsDef) bool {
		_, used := usedElsewhere(l, of, ofCons, c.Name)
		return used
	})
}

// TestP8_2Visibility has each type and each relation visible, and not.
func TestP8_2Visibility(t *testing.T) {
	g := newGenerator(5)
	hidden, refused := 0, 0
	for range 300 {
		x := g.modules(4, 3)
		types, rels := 0, 0
		for i, m := range x.given {
			for k, d := range m.Types {
				l, want := copied(x.given), copied(x.want)
				l[i].Types[k].Pub, want.Types[types].Pub = !d.Pub, !d.Pub
				types++
				if d.Pub && typeUsedElsewhere(l, m.Name, d) {
					refused++
					checkName(t, l)
				} else {
					hidden++
					checkModules(t, "a type, visible or not", l, want)
				}
			}
			for k, d := range m.Rels {
				l, want := copied(x.given), copied(x.want)
				l[i].Rels[k].Pub, want.Rels[rels].Pub = !d.Pub, !d.Pub
				rels++
				if at, used := usedElsewhere(l, m.Name, ofRel, d.Name); d.Pub && used {
					refused++
					checkRefused(t, "a relation that is not visible", l, at, api.ErrName)
				} else {
					hidden++
					checkModules(t, "a relation, visible or not", l, want)
				}
			}
		}
	}
	if hidden < 500 || refused < 200 {
		t.Errorf("only %d, %d", hidden, refused)
	}
}

// checkName requires that modules have no program, as a name has no meaning.
func checkName(t *testing.T, l []api.Module) {
	t.Helper()
	if m, at, e := module.Flatten(l); e != api.ErrName || at.Module == "" || !reflect.ValueOf(m).IsZero() {
		t.Errorf("%v at %+v", e, at)
	}
}

// TestP8_2NothingVisible has modules each of which uses only its own names: that all is visible, or nothing, is the same but for that.
func TestP8_2NothingVisible(t *testing.T) {
	text := "module m pub type t = c(t) | d pub rel p(x: t) p(c(d)) :- p(d). never n :- p(X), X == c(X)."
	for _, other := range []string{"module b import m pub type t = c(t) pub rel p(x: t) p(c(X)) :- b.p(X).", "module b pub type t = d pub rel p() p()."} {
		visible, _ := modulesOf(t, text, other)
		invisible, _ := modulesOf(t, strings.ReplaceAll(text, "pub", ""), strings.ReplaceAll(other, "pub", ""))
		a, b := flat(t, visible...), flat(t, invisible...)
		for i := range a.Types {
			if !a.Types[i].Pub || b.Types[i].Pub {
				t.Errorf("%+v, %+v", a.Types[i], b.Types[i])
			}
			a.Types[i].Pub = false
		}
		for i := range a.Rels {
			if !a.Rels[i].Pub || b.Rels[i].Pub {
				t.Errorf("%+v, %+v", a.Rels[i], b.Rels[i])
			}
			a.Rels[i].Pub = false
		}
		if !alike(a, b) {
			t.Errorf("%s\nnot\n%s", shown(a), shown(b))
		}
	}
}

// ordered are modules in another order behind the first one, and the parts of their programs in that order.
func ordered(l, programs []api.Module, order []int) ([]api.Module, api.Module) {
	given, want := []api.Module{l[0]}, programs[0]
	want.Name = l[0].Name
	for _, i := range order {
		given = append(given, l[i+1])
		want.Types, want.Rels = append(want.Types, programs[i+1].Types...), append(want.Rels, programs[i+1].Rels...)
		want.Rules, want.Nevers = append(want.Rules, programs[i+1].Rules...), append(want.Nevers, programs[i+1].Nevers...)
	}
	return given, want
}

// parts are those of a program that come from each module.
func parts(program api.Module, l []api.Module) []api.Module {
	var programs []api.Module
	for _, m := range l {
		var one api.Module
		one.Types, program.Types = program.Types[:len(m.Types):len(m.Types)], program.Types[len(m.Types):]
		one.Rels, program.Rels = program.Rels[:len(m.Rels):len(m.Rels)], program.Rels[len(m.Rels):]
		one.Rules, program.Rules = program.Rules[:len(m.Rules):len(m.Rules)], program.Rules[len(m.Rules):]
		one.Nevers, program.Nevers = program.Nevers[:len(m.Nevers):len(m.Nevers)], program.Nevers[len(m.Nevers):]
		programs = append(programs, one)
	}
	return programs
}

// TestP8_3Order has modules in all orders, or in some, behind the first one.
func TestP8_3Order(t *testing.T) {
	g := newGenerator(6)
	for range 300 {
		l := g.modules(8, 2).given
		programs := parts(flat(t, l...), l)
		for range 6 {
			given, want := ordered(l, programs, g.Perm(len(l)-1))
			checkModules(t, "another order", given, want)
		}
	}
}

// TestP8_3OtherFirst has another first module: then that is the name of the program.
func TestP8_3OtherFirst(t *testing.T) {
	g := newGenerator(7)
	for range 100 {
		l := g.modules(5, 2).given
		programs := parts(flat(t, l...), l)
		for i := range l {
			given := append(slices.Clone(l[i:]), l[:i]...)
			again := append(slices.Clone(programs[i:]), programs[:i]...)
			var order []int
			for k := range len(l) - 1 {
				order = append(order, k)
			}
			given, want := ordered(given, again, order)
			checkModules(t, "another first module", given, want)
		}
	}
}

// TestP8_4QualifiedBefore has single modules in which each name, or each two, or some, are qualified.
func TestP8_4QualifiedBefore(t *testing.T) {
	l, _ := modulesOf(t, `module m
		type t('a) = a(t('a), 'a) | b(u, (t(int), u)) pub type u = c
		input q(x: t(u)) rel p(x: u, y: (int, t(int)))
		p(a(c, X), count(c)) :- q(b(c, (a(X, X), c))), not p(_, c), X == a(c, c), Y = (c).f.
		p(X, Y) :- p(X, Y).
		never n :- p(X, c), not q(c), X = c.`)
	want := flat(t, l...)
	all := len(usesIn(&l[0]))
	if all < 25 {
		t.Errorf("only %d", all)
	}
	for first := range all {
		for second := range first + 1 {
			given := copied(l)
			uses := usesIn(&given[0])
			*uses[first].name = "m." + *uses[first].name
			if second < first {
				*uses[second].name = "m." + *uses[second].name
			}
			checkModules(t, "qualified", given, want)
		}
	}
	given := copied(l)
	for _, x := range usesIn(&given[0]) {
		*x.name = "m." + *x.name
	}
	checkModules(t, "all qualified", given, want)
}

// TestP8_4RandomModules has single modules, and several, that are shortened in different ways.
func TestP8_4RandomModules(t *testing.T) {
	g := newGenerator(8)
	for n := range 600 {
		x := g.modules(1+n%2*3, 4)
		again := make([]api.Module, len(x.full))
		for i, m := range x.full {
			again[i] = g.shortened(m)
		}
		checkModules(t, "shortened once", x.given, x.want)
		checkModules(t, "shortened again", again, x.want)
	}
}
