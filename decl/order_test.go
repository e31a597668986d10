package decl_test

import (
	"testing"

	"corollary/api"
)

// defect is one thing that is wrong in a module. Of two at the same spot the module has only one.
type defect struct {
	what, spot string
	at         api.Pos
	e          api.Errno
	spoil      func(m *api.Module)
}

// sound is a module in which nothing is wrong.
func sound(t *testing.T) api.Module {
	return moduleOf(t, `
		type t('a) = c(x: 'a, y: t('a)) | d | e(u: int, v: int, int)
		type u('a) = f(x: 'a, y: t('a)) | g | h(u: int, v: int, int)
		type v = i | j(v)
		rel p(x: 'a, y: t('a), z: (int, t(int)))
		rel q(x: 'a, y: u('a), z: (int, t(int)))
		input r(x: v)
		p(c(X, (d, i)), g, i) :- q(X, (d, h(i, d, g)), Y), not r(i), X == 1 + len(i), Y = (i, (i).x).
		q(X, sum(h(X, j(i), Z)), g) :- p(d, X, Z), not r((i, (g, i))).
		never n :- r(j(d)), not q(d, (c(g, i), 1), X), X == (d).
		never o :- not r(_), X = d.`)
}

// list is what makes a list of defects.
type list []defect

func (l *list) add(what, spot string, at api.Pos, e api.Errno, spoil func(m *api.Module)) {
	*l = append(*l, defect{what, spot, at, e, spoil})
}

// inOrder are all defects that the chapter names, in the order in which they are errors.
func inOrder(m api.Module) []defect {
	var l list
	l.twice(m)
	l.inTypes(m)
	l.uninhabited(m)
	l.inRels(m)
	l.inRules(m)
	l.inNevers(m)
	return l
}

func (l *list) twice(m api.Module) {
	first, second, third := m.Types[0].Pos, m.Types[1].Pos, m.Types[2].Pos
	l.add("the first type int", "name 0", first, api.ErrTwice, func(m *api.Module) { m.Types[0].Name = "int" })
	l.add("the first type a parameter", "name 0", first, api.ErrTwice, func(m *api.Module) { m.Types[0].Name = "'t" })
	l.add("a field twice in the first type", "fields 0", first, api.ErrTwice, func(m *api.Module) { m.Types[0].Cons[2].Fields[1].Name = "u" })
	l.add("a constructor twice in the first type", "cons 0", first, api.ErrTwice, func(m *api.Module) { m.Types[0].Cons[2].Name = "c" })
	l.add("the second type tuple", "name 1", second, api.ErrTwice, func(m *api.Module) { m.Types[1].Name = "tuple" })
	l.add("a field twice in the second type", "fields 1", second, api.ErrTwice, func(m *api.Module) { m.Types[1].Cons[2].Fields[1].Name = "u" })
	l.add("a constructor of the first type", "cons 1", second, api.ErrTwice, func(m *api.Module) { m.Types[1].Cons[1].Name = "d" })
	l.add("the third type is the second one", "name 2", third, api.ErrTwice, func(m *api.Module) { m.Types[2].Name = m.Types[1].Name })
	l.add("a constructor of the second type", "cons 2", third, api.ErrTwice, func(m *api.Module) { m.Types[2].Cons[1].Name = "f" })
}

// ofAType are types that are wrong, in the order of their errors.
func ofAType() []struct {
	x api.Type
	e api.Errno
} {
	return []struct {
		x api.Type
		e api.Errno
	}{{nestedTuple(65, typ("int")), api.ErrDeep}, {of("t(nope)"), api.ErrName}, {of("tuple(t, int)"), api.ErrType}, {of("tuple(int, t(t('a)))"), api.ErrGrow}}
}

func (l *list) inTypes(m api.Module) {
	for i, places := range [][][2]int{{{0, 0}, {0, 1}, {2, 2}}, {{0, 1}, {2, 0}, {2, 2}}, {{1, 0}}} {
		for _, place := range places {
			for _, wrong := range ofAType() {
				if i == 2 && wrong.e == api.ErrGrow {
					continue // it has no parameter
				}
				spot := "type " + string(rune('0'+i)) + string(rune('0'+place[0])) + string(rune('0'+place[1]))
				l.add(spot+" "+shown(wrong.x), spot, m.Types[i].Pos, wrong.e, func(m *api.Module) { m.Types[i].Cons[place[0]].Fields[place[1]].Type = wrong.x })
			}
		}
	}
}

func (l *list) uninhabited(m api.Module) {
	for i := range m.Types {
		l.add("no values", "all of "+string(rune('0'+i)), m.Types[i].Pos, api.ErrNone, func(m *api.Module) {
			for k, c := range m.Types[i].Cons {
				x := typ("v")
				if i < 2 {
					x = typ(m.Types[i].Name, typ("int"))
				}
				m.Types[i].Cons[k].Fields = append(c.Fields, api.FieldDef{Type: x})
			}
		})
	}
}

func (l *list) inRels(m api.Module) {
	for i, d := range m.Rels {
		if i == 1 {
			l.add("a relation that is the first one", "rel 1", d.Pos, api.ErrTwice, func(m *api.Module) { m.Rels[1].Name = "p" })
		}
		if i == 2 {
			l.add("a relation that is the second one", "rel 2", d.Pos, api.ErrTwice, func(m *api.Module) { m.Rels[2].Name = "q" })
			l.add("a field twice", "rel fields 2", d.Pos, api.ErrTwice, func(m *api.Module) {
				m.Rels[2].Fields = append(m.Rels[2].Fields, api.FieldDef{Name: "x", Type: typ("int")})
			})
		} else {
			l.add("a field twice", "rel fields "+d.Name, d.Pos, api.ErrTwice, func(m *api.Module) { m.Rels[i].Fields[2].Name = "x" })
		}
		for k := range d.Fields {
			for _, wrong := range ofAType() {
				spot := "rel " + d.Name + string(rune('0'+k))
				l.add(spot+" "+shown(wrong.x), spot, d.Pos, wrong.e, func(m *api.Module) { m.Rels[i].Fields[k].Type = wrong.x })
			}
		}
	}
}

func (l *list) inRules(m api.Module) {
	for i, r := range m.Rules {
		spot := "rule " + string(rune('0'+i))
		l.add("no relation", spot+" head", r.Pos, api.ErrName, func(m *api.Module) { m.Rules[i].Rel = "nope" })
		l.add("an input", spot+" head", r.Pos, api.ErrState, func(m *api.Module) { m.Rules[i].Rel = "r" })
		l.add("more Aggs", spot+" aggs", r.Pos, api.ErrForm, func(m *api.Module) { m.Rules[i].Aggs = append(m.Rules[i].Aggs, "") })
		l.add("more Args", spot+" more", r.Pos, api.ErrType, func(m *api.Module) {
			m.Rules[i].Aggs = append(m.Rules[i].Aggs, "")
			m.Rules[i].Args = append(m.Rules[i].Args, api.Expr{})
		})
		l.inArgs(spot, r.Args, func(m *api.Module) []api.Expr { return m.Rules[i].Args })
		l.inBody(spot, r.Body, func(m *api.Module) []api.Literal { return m.Rules[i].Body })
	}
}

func (l *list) inNevers(m api.Module) {
	for i, n := range m.Nevers {
		l.inBody("never "+string(rune('0'+i)), n.Body, func(m *api.Module) []api.Literal { return m.Nevers[i].Body })
	}
}

func (l *list) inBody(spot string, body []api.Literal, of func(m *api.Module) []api.Literal) {
	for i, x := range body {
		spot := spot + " literal " + string(rune('0'+i))
		if x.Kind == api.Atom || x.Kind == api.Not {
			l.add("no relation", spot, x.Pos, api.ErrName, func(m *api.Module) { of(m)[i].Rel = "nope" })
			l.add("more Args", spot+" more", x.Pos, api.ErrType, func(m *api.Module) { of(m)[i].Args = append(of(m)[i].Args, api.Expr{}) })
		}
		l.inArgs(spot, x.Args, func(m *api.Module) []api.Expr { return of(m)[i].Args })
	}
}

func (l *list) inArgs(spot string, args []api.Expr, of func(m *api.Module) []api.Expr) {
	for i, x := range args {
		spot := spot + " arg " + string(rune('0'+i))
		if x.Kind == api.Make {
			l.add("no constructor", spot, x.Pos, api.ErrName, func(m *api.Module) { of(m)[i].Name = "nope" })
			l.add("more Args", spot+" more", x.Pos, api.ErrType, func(m *api.Module) { of(m)[i].Args = append(of(m)[i].Args, api.Expr{}) })
		}
		l.inArgs(spot, x.Args, func(m *api.Module) []api.Expr { return of(m)[i].Args })
	}
}

// TestErrorsInOrder has each defect alone, and each two of them.
func TestErrorsInOrder(t *testing.T) {
	m := sound(t)
	made(t, m)
	all := inOrder(m)
	if len(all) < 150 {
		t.Fatalf("%d defects", len(all))
	}
	for i, first := range all {
		spoiled := copied(m)
		first.spoil(&spoiled)
		checkRefused(t, first.what, spoiled, first.at, first.e)
		for _, second := range all[i+1:] {
			if first.spot == second.spot {
				continue
			}
			both := copied(spoiled)
			second.spoil(&both)
			checkRefused(t, first.what+"; "+second.what, both, first.at, first.e)
		}
	}
}
