package module_test

import (
	"strconv"
	"testing"

	"corollary/api"
	"corollary/module"
)

// defect is one thing that is put into modules: in which one it is an error (none: in no module), and where.
type defect struct {
	what   string
	module int
	pos    api.Pos
	e      api.Errno
	spoil  func(l []api.Module) []api.Module
}

const none = -1

// inModule is a defect that changes only the module in which it is an error.
func inModule(what string, module int, pos api.Pos, e api.Errno, spoil func(m *api.Module)) defect {
	return defect{what, module, pos, e, func(l []api.Module) []api.Module {
		spoil(&l[module])
		return l
	}}
}

// spoilable are three modules that have a program.
func spoilable(t *testing.T) []api.Module {
	parts := `
		pub type t('p) = k(x: int, y: 'p) | l(z: (t('p), int))
		pub type u = i(u, x: (int, t(u))) | j
		pub rel r(x: int, y: (int, t(int)))
		pub rel s(x: u, y: t(u))
		r(k(i(X), j), (1, j)) :- r(X, (_, k(X, j))), not s(j, _), X == 1 + len(j), Y = (j, (i(j)).x).
		s(j, sum(X)) :- s(X, X), not r(j, X).
		never n :- r(X, j), not s(j, k(j)), (j) == X.
		never o :- not s(_, j), X = j.`
	l, _ := modulesOf(t, "module a import b import c"+parts+" never x :- b.r(c.j, X), c.s(X, (b.k, b.j)).", "module b import c"+parts+" never x :- c.s(X, X), not c.r(c.k(X, c.j), X).", "module c"+parts)
	return l
}

// defectsInOrder are all that the chapter names, in the order in which they are errors.
func defectsInOrder(modules []api.Module) []defect {
	all := []defect{{"nine modules", none, api.Pos{}, api.ErrFull, func(l []api.Module) []api.Module {
		for n := range 6 {
			l = append(l, api.Module{Name: "z" + strconv.Itoa(n)})
		}
		return l
	}}}
	for i := range modules {
		all = append(all, moduleDefects(i)...)
	}
	all = append(all, importDefects(modules)...)
	all = append(all, cycleDefects(modules)...)
	for i, m := range modules {
		all = append(all, declarationDefects(i, m)...)
	}
	all = append(all, totalDefects()...)
	for i, m := range modules {
		all = append(all, nameDefects(i, m)...)
	}
	return all
}

func moduleDefects(i int) []defect {
	deep, literals := nestedExpr(65, "k", api.Expr{}), times(13, api.Literal{Kind: api.Atom, Rel: "r"})
	all := []defect{
		inModule("deep", i, api.Pos{}, api.ErrDeep, func(m *api.Module) { m.Rules = append(m.Rules, api.Rule{Rel: "r", Args: []api.Expr{deep}}) }),
		inModule("wrong", i, api.Pos{}, api.ErrForm, func(m *api.Module) { m.Rels = append(m.Rels, api.RelDef{}) }),
		inModule("full", i, api.Pos{}, api.ErrFull, func(m *api.Module) { m.Nevers = append(m.Nevers, api.Never{Name: "f", Body: literals}) }),
	}
	if i > 0 {
		all = append(all, inModule("a module twice", i, api.Pos{}, api.ErrTwice, func(m *api.Module) { m.Name = "a" }))
	}
	return all
}

func importDefects(l []api.Module) []defect {
	rename := func(i, k int, name string, e api.Errno) defect {
		return inModule("import "+name, i, l[i].Imports[k].Pos, e, func(m *api.Module) { m.Imports[k].Name = name })
	}
	return []defect{
		rename(0, 0, "nope", api.ErrName), rename(0, 1, "nope", api.ErrName), rename(0, 1, "b", api.ErrTwice),
		rename(1, 0, "nope", api.ErrName), moreImport(1, "c", api.Pos{Line: 50}, api.ErrTwice),
		moreImport(2, "nope", api.Pos{Line: 50}, api.ErrName),
	}
}

// moreImport is a defect that is an import behind the others.
func moreImport(i int, name string, pos api.Pos, e api.Errno) defect {
	return inModule("one more import "+name, i, pos, e, func(m *api.Module) { m.Imports = append(m.Imports, api.Import{Name: name, Pos: pos}) })
}

func cycleDefects(l []api.Module) []defect {
	own := api.Pos{Line: 60}
	// back is an import of the last module by which an import of an earlier one leads back to that
	back := func(i int) defect {
		return defect{"back to " + l[i].Name, i, l[i].Imports[0].Pos, api.ErrCycle, func(m []api.Module) []api.Module {
			m[2].Imports = append(m[2].Imports, api.Import{Name: l[i].Name, Pos: api.Pos{Line: 61, Col: i}})
			return m
		}}
	}
	return []defect{back(0), moreImport(0, "a", own, api.ErrCycle), back(1), moreImport(1, "b", own, api.ErrCycle), moreImport(2, "c", own, api.ErrCycle)}
}

func declarationDefects(i int, m api.Module) []defect {
	parameter := api.Type{Name: "'zz"}
	var all []defect
	add := func(what string, pos api.Pos, e api.Errno, spoil func(m *api.Module)) {
		all = append(all, inModule(what, i, pos, e, spoil))
	}
	first, second := m.Types[0].Pos, m.Types[1].Pos
	add("a parameter twice", first, api.ErrTwice, func(m *api.Module) { m.Types[0].Params = []string{"'p", "'p"} })
	add("a constructor twice in a type", first, api.ErrTwice, func(m *api.Module) { m.Types[0].Cons[1].Name = "k" })
	add("no parameter", first, api.ErrName, func(m *api.Module) { m.Types[0].Cons[0].Fields[0].Type = parameter })
	add("no parameter within", first, api.ErrName, func(m *api.Module) { m.Types[0].Cons[1].Fields[0].Type.Args[0].Args[0] = parameter })
	add("a type twice", second, api.ErrTwice, func(m *api.Module) { m.Types[1].Name = "t" })
	add("a parameter twice in the second type", second, api.ErrTwice, func(m *api.Module) { m.Types[1].Params = []string{"'p", "'q", "'p"} })
	add("a constructor twice in two types", second, api.ErrTwice, func(m *api.Module) { m.Types[1].Cons[0].Name = "l" })
	add("no parameter in the second type", second, api.ErrName, func(m *api.Module) { m.Types[1].Cons[0].Fields[1].Type.Args[1].Args[0] = parameter })
	first, second = m.Rels[0].Pos, m.Rels[1].Pos
	add("a parameter in a relation", first, api.ErrName, func(m *api.Module) { m.Rels[0].Fields[1].Type.Args[1].Args[0] = parameter })
	add("a relation twice", second, api.ErrTwice, func(m *api.Module) { m.Rels[1].Name = "r" })
	add("a parameter in the second relation", second, api.ErrName, func(m *api.Module) { m.Rels[1].Fields[0].Type = parameter })
	add("a never twice", m.Nevers[1].Pos, api.ErrTwice, func(m *api.Module) { m.Nevers[1].Name = "n" })
	if len(m.Nevers) > 2 {
		add("the third never twice", m.Nevers[2].Pos, api.ErrTwice, func(m *api.Module) { m.Nevers[2].Name = "n" })
	}
	return all
}

// totalDefects are more parts of the last module, so that it has not too many, but all together have.
func totalDefects() []defect {
	add := func(what string, n int, add func(m *api.Module, name string)) defect {
		return defect{what, none, api.Pos{}, api.ErrFull, func(l []api.Module) []api.Module {
			for k := range n {
				add(&l[2], "f"+strconv.Itoa(k))
			}
			return l
		}}
	}
	return []defect{
		add("65 types", 59, func(m *api.Module, name string) {
			m.Types = append(m.Types, api.TypeDef{Name: name, Cons: []api.ConsDef{{Name: name}}})
		}),
		add("65 relations", 59, func(m *api.Module, name string) { m.Rels = append(m.Rels, api.RelDef{Name: name}) }),
		add("257 rules", 251, func(m *api.Module, name string) { m.Rules = append(m.Rules, api.Rule{Rel: "r"}) }),
		add("257 nevers", 249, func(m *api.Module, name string) {
			m.Nevers = append(m.Nevers, api.Never{Name: name, Body: []api.Literal{{Kind: api.Atom, Rel: "r"}}})
		}),
	}
}

// nameDefects are names without meaning, and heads of other modules.
func nameDefects(i int, m api.Module) []defect {
	other := []string{"b.r", "c.s", "a.r"}[i]
	var all []defect
	for k, x := range usesIn(&m) {
		rename := func(name string) defect {
			return inModule(name+" in place of "+*x.name, i, x.pos, api.ErrName, func(m *api.Module) { *usesIn(m)[k].name = name })
		}
		all = append(all, rename("nope"))
		if x.head {
			all = append(all, rename(other))
		}
	}
	return all
}

// checkDefects puts some into modules, from the last one on, so that none undoes what one before it has done: the first one is told.
func checkDefects(t *testing.T, modules []api.Module, defects ...defect) {
	t.Helper()
	l := copied(modules)
	what := ""
	for k := range defects {
		d := defects[len(defects)-1-k]
		l, what = d.spoil(l), d.what+"; "+what
	}
	var at module.Where
	if first := defects[0]; first.module != none {
		at = whereIn(l[first.module].Name, first.pos)
	}
	checkRefused(t, what, l, at, defects[0].e)
}

// TestErrorsInTheirOrder has each one, and each two of them.
func TestErrorsInTheirOrder(t *testing.T) {
	modules := spoilable(t)
	flat(t, modules...)
	all := defectsInOrder(modules)
	for i, first := range all {
		checkDefects(t, modules, first)
		for _, second := range all[i+1:] {
			checkDefects(t, modules, first, second)
		}
	}
	if len(all) < 150 {
		t.Errorf("only %d", len(all))
	}
}
