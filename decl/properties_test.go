package decl_test

import (
	"slices"
	"testing"

	"corollary/api"
	"corollary/decl"
)

// closedTypes are types without parameters: the four, and each declared one with some Args.
func (g *generator) closedTypes(m api.Module) []api.Type {
	l := types("bool, int, big, text, tuple, tuple(int, text)")
	for _, d := range m.Types {
		for range 3 {
			x := typ(d.Name)
			for range d.Params {
				x.Args = append(x.Args, g.typed(m, nil, 2))
			}
			l = append(l, x)
		}
	}
	return l
}

// someValues are values of types of a module, and others.
func (g *generator) someValues(m api.Module, l []api.Type) []api.Value {
	values := vals("1", "1b", `"a"`, "true", "()", `(1, "a")`, "nope")
	for _, x := range l {
		if v, ok := g.valueOf(m, x, 6); ok {
			values = append(values, v, g.changed(m, v))
		}
	}
	return values
}

// TestP10_3DistinctTypes has values of which some have several types: declared ones all have the same name.
func TestP10_3DistinctTypes(t *testing.T) {
	g := newGenerator(6)
	several := 0
	for range 1500 {
		m := g.accepted()
		x := made(t, m)
		l := g.closedTypes(m)
		for _, v := range g.someValues(m, l) {
			name := ""
			for _, a := range l {
				if !x.Is(v, a) {
					continue
				}
				if name != "" {
					several++
				}
				if name != "" && name != a.Name || v.Kind == api.Int && a.Name != "int" {
					t.Errorf("%s has the types %s and %s", textOf(v), name, shown(a))
				}
				name = a.Name
			}
		}
	}
	if several < 1000 {
		t.Errorf("%d values of several types", several)
	}
}

// TestP10_3AnInt has the type int only.
func TestP10_3AnInt(t *testing.T) {
	x := tableOf(t, several)
	for _, n := range []int64{0, 1, -1, 1 << 62, -1 << 63} {
		for name := range ofEveryKind() {
			if x.Is(num(n), of(name)) != (name == "int") {
				t.Errorf("%d, %s", n, name)
			}
		}
	}
}

// least is a value of least depth of each declared type that has one by means of the others, of at most so many rounds. The Args of
// declared types are left out of account: a parameter has the value 0.
func least(m api.Module, rounds int) map[string]api.Value {
	found := map[string]api.Value{}
	var valueOf func(x api.Type, known map[string]api.Value) (api.Value, bool)
	valueOf = func(x api.Type, known map[string]api.Value) (api.Value, bool) {
		switch {
		case x.Name == "bool":
			return boolean(1), true
		case x.Name == "big":
			return long("0"), true
		case x.Name == "text":
			return text(""), true
		case x.Name == "int" || parameter(x.Name):
			return num(0), true
		case x.Name != "tuple":
			v, there := known[x.Name]
			return v, there
		}
		v := tuple()
		for _, arg := range x.Args {
			item, ok := valueOf(arg, known)
			if !ok {
				return v, false
			}
			v.L = append(v.L, item)
		}
		return v, true
	}
	for range rounds {
		next := map[string]api.Value{}
		for _, d := range m.Types {
			for _, c := range d.Cons {
				var args []api.Type
				for _, f := range c.Fields {
					args = append(args, f.Type)
				}
				if v, ok := valueOf(typ("tuple", args...), found); ok {
					if known, there := found[d.Name]; there {
						next[d.Name] = known
					} else if _, there := next[d.Name]; !there {
						next[d.Name] = cons(c.Name, v.L...)
					}
				}
			}
		}
		found = next
	}
	return found
}

// hasInner tells whether a declared type occurs in an Arg of a declared one, in a field of a type.
func hasInner(m api.Module) bool {
	for _, d := range m.Types {
		for _, c := range d.Cons {
			for _, f := range c.Fields {
				for _, x := range parts(f.Type) {
					if !predefined(x.Name) && slices.ContainsFunc(parts(typ("tuple", x.Args...))[1:], func(y api.Type) bool { return !predefined(y.Name) }) {
						return true
					}
				}
			}
		}
	}
	return false
}

// plainArgs has each Arg of a declared type in the fields of types be int, or a parameter.
func plainArgs(m *api.Module) {
	var change func(x *api.Type)
	change = func(x *api.Type) {
		for i := range x.Args {
			if predefined(x.Name) {
				change(&x.Args[i])
			} else {
				x.Args[i] = typ("int")
			}
		}
	}
	for _, d := range m.Types {
		for _, c := range d.Cons {
			for i := range c.Fields {
				change(&c.Fields[i].Type)
			}
		}
	}
}

// TestP10_4InhabitedTypesHaveValues has types that are inhabited, each of which has a value, and others, of which one has none.
func TestP10_4InhabitedTypesHaveValues(t *testing.T) {
	g := newGenerator(7)
	seen := map[api.Errno]int{}
	for range 20000 {
		m := g.module()
		plainArgs(&m)
		values := least(m, len(m.Types))
		at, want := api.Pos{}, api.OK
		for _, d := range m.Types {
			if _, has := values[d.Name]; !has {
				at, want = d.Pos, api.ErrNone
				break
			}
		}
		seen[want]++
		x, p, e := decl.New(m)
		if e != want || p != at || hasInner(m) {
			t.Fatalf("%v at %v, not %v at %v: %+v", e, p, want, at, m)
		}
		if e != api.OK {
			continue
		}
		for _, d := range m.Types { // a parameter has the value 0, so it stands for int
			if v := values[d.Name]; !x.Is(v, typ(d.Name, times(len(d.Params), typ("int"))...)) {
				t.Errorf("%s has not the type %s", textOf(v), d.Name)
			}
		}
	}
	if seen[api.OK] < 2000 || seen[api.ErrNone] < 2000 {
		t.Errorf("%v", seen)
	}
}

// TestP10_4WhatHasAValueIsInhabited takes types with values, and adds one that has none: it alone is refused.
func TestP10_4WhatHasAValueIsInhabited(t *testing.T) {
	g := newGenerator(8)
	for range 2000 {
		m := g.accepted()
		x := made(t, m)
		inhabited := map[string]bool{}
		c := claims{m: m}
		for _, name := range c.inhabited() {
			inhabited[name] = true
		}
		for _, a := range g.closedTypes(m) {
			if v, ok := g.valueOf(m, a, 6); ok && (!x.Is(v, a) || !predefined(a.Name) && !inhabited[a.Name]) {
				t.Errorf("%s, %s", textOf(v), shown(a))
			}
		}
		d := pick(g, m.Types...)
		at := g.pos()
		fields := []api.FieldDef{{Type: typ("tuple", typ(d.Name, times(len(d.Params), typ("empty"))...), typ("empty"))}}
		empty := api.TypeDef{Name: "empty", Pos: at, Cons: []api.ConsDef{{Name: "none", Fields: fields}}}
		m.Types = slices.Insert(m.Types, g.IntN(len(m.Types)+1), empty)
		checkRefused(t, "one without values", m, at, api.ErrNone)
	}
}

// TestP10_5WhatIsDeclaredBesides adds types and relations with other names, before and behind the others.
func TestP10_5WhatIsDeclaredBesides(t *testing.T) {
	g := newGenerator(9)
	for range 1500 {
		m, more := g.accepted(), g.accepted()
		rename := func(name string) string {
			if predefined(name) {
				return name
			}
			return "z." + name
		}
		both := m
		both.Types, both.Rels = slices.Clone(m.Types), slices.Clone(m.Rels)
		for _, d := range renamedTypes(more.Types, rename) {
			both.Types = slices.Insert(both.Types, g.IntN(len(both.Types)+1), d)
		}
		for _, d := range more.Rels {
			d = copied(d)
			d.Name = rename(d.Name)
			renameFields(d.Fields, rename)
			both.Rels = slices.Insert(both.Rels, g.IntN(len(both.Rels)+1), d)
		}
		x, y := made(t, m), made(t, both)
		l := append(g.closedTypes(m), g.typed(m, []string{"'a"}, 3), typ("nope"))
		for _, v := range append(g.someValues(m, l), cons("z.c0"), cons("c0")) {
			for _, a := range l {
				if x.Is(v, a) != y.Is(v, a) || x.Well(a) != y.Well(a) {
					t.Errorf("%s, %s: %v, and then %v", textOf(v), shown(a), x.Is(v, a), y.Is(v, a))
				}
			}
		}
		for _, d := range m.Rels {
			row := g.someValues(m, nil)[:len(d.Fields)]
			if x.Row(d.Name, row) != y.Row(d.Name, row) {
				t.Errorf("a row of %s", d.Name)
			}
		}
	}
}

func renamedTypes(l []api.TypeDef, name func(string) string) []api.TypeDef {
	l = copied(l)
	for i, d := range l {
		l[i].Name = name(d.Name)
		for k, c := range d.Cons {
			d.Cons[k].Name = name(c.Name)
			renameFields(c.Fields, name)
		}
	}
	return l
}

func renameFields(l []api.FieldDef, name func(string) string) {
	var rename func(x *api.Type)
	rename = func(x *api.Type) {
		x.Name = name(x.Name)
		for i := range x.Args {
			rename(&x.Args[i])
		}
	}
	for i := range l {
		rename(&l[i].Type)
	}
}

// TestExamplesOfTheChapter has those of the chapter that no other test has.
func TestExamplesOfTheChapter(t *testing.T) {
	x := tableOf(t, "type list('a) = nil | cons(head: 'a, list('a)) rel r(x: int) rel s(x: list(int))")
	checkIs(t, x, []string{"cons(1, nil)"}, []string{"list(int)"}, []string{"list(text)", "list"})
	checkIs(t, x, []string{"nil"}, []string{"list(int)", "list(text)", "list(list(int))", "list(tuple)"}, nil)
	if x.Row("r", vals("1")) != api.OK || x.Row("s", vals("1")) != api.ErrType {
		t.Error("Row")
	}
	checkText(t, "^type t = c(t)", api.ErrNone)
	checkText(t, "type list('a) = nil ^type t = c(list(int, int))", api.ErrType)
	checkText(t, "^type t = c(none)", api.ErrName)
	checkText(t, "^type t('a) = c | d(t(('a, 'a)))", api.ErrGrow)
	checkText(t, "input i(x: int) ^i(1).", api.ErrState)
	checkText(t, "rel p(x: int) ^p(X, Y).", api.ErrType)
}
