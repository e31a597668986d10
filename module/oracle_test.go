package module_test

import (
	"reflect"
	"slices"
	"strings"
	"testing"

	"corollary/api"
	"corollary/module"
	"corollary/tree"
)

// failure is one error of modules, and where it is.
type failure struct {
	at module.Where
	e  api.Errno
}

// failuresOf are all errors of the first step of the chapter that has some, in their order.
func failuresOf(l []api.Module) []failure {
	for _, step := range []func([]api.Module) []failure{wrongNumber, wrongModules, wrongImports, cycles, wrongDeclarations, wrongTotals, wrongNames} {
		if failures := step(l); len(failures) > 0 {
			return failures
		}
	}
	return nil
}

func wrongNumber(l []api.Module) []failure {
	switch {
	case len(l) == 0:
		return []failure{{e: api.ErrArg}}
	case len(l) > 8:
		return []failure{{e: api.ErrFull}}
	}
	return nil
}

func wrongModules(l []api.Module) []failure {
	var failures []failure
	names := map[string]int{}
	for _, m := range l {
		if e := tree.Check(m); e != api.OK {
			failures = append(failures, failure{whereIn(m.Name, api.Pos{}), e})
		}
		names[m.Name]++
		if names[m.Name] > 1 {
			failures = append(failures, failure{whereIn(m.Name, api.Pos{}), api.ErrTwice})
		}
	}
	return failures
}

func wrongImports(l []api.Module) []failure {
	var failures []failure
	for _, m := range l {
		for k, i := range m.Imports {
			at := whereIn(m.Name, i.Pos)
			if placeOf(l, i.Name) < 0 {
				failures = append(failures, failure{at, api.ErrName})
			}
			if slices.ContainsFunc(m.Imports[:k], func(before api.Import) bool { return before.Name == i.Name }) {
				failures = append(failures, failure{at, api.ErrTwice})
			}
		}
	}
	return failures
}

func placeOf(l []api.Module, name string) int {
	return slices.IndexFunc(l, func(m api.Module) bool { return m.Name == name })
}

// cycles are found in the table of what leads where, in any number of imports.
func cycles(l []api.Module) []failure {
	var leads [8][8]bool
	for i, m := range l {
		for _, x := range m.Imports {
			leads[i][placeOf(l, x.Name)] = true
		}
	}
	for between := range l {
		for from := range l {
			for to := range l {
				leads[from][to] = leads[from][to] || leads[from][between] && leads[between][to]
			}
		}
	}
	var failures []failure
	for i, m := range l {
		for _, x := range m.Imports {
			if k := placeOf(l, x.Name); k == i || leads[k][i] {
				failures = append(failures, failure{whereIn(m.Name, x.Pos), api.ErrCycle})
			}
		}
	}
	return failures
}

func wrongDeclarations(l []api.Module) []failure {
	var failures []failure
	for _, m := range l {
		seen := map[string]int{}
		twice := func(kind, name string, pos api.Pos) {
			seen[kind+" "+name]++
			if seen[kind+" "+name] > 1 {
				failures = append(failures, failure{whereIn(m.Name, pos), api.ErrTwice})
			}
		}
		strange := func(fields []api.FieldDef, parameters []string, pos api.Pos) {
			for i := range fields {
				for _, x := range typesIn(&fields[i].Type) {
					if x.Name[0] == '\'' && !slices.Contains(parameters, x.Name) {
						failures = append(failures, failure{whereIn(m.Name, pos), api.ErrName})
					}
				}
			}
		}
		for i, d := range m.Types {
			twice("type", d.Name, d.Pos)
			for _, s := range d.Params {
				twice("parameter "+string(rune('a'+i)), s, d.Pos)
			}
			for _, c := range d.Cons {
				twice("constructor", c.Name, d.Pos)
			}
			for _, c := range d.Cons {
				strange(c.Fields, d.Params, d.Pos)
			}
		}
		for _, d := range m.Rels {
			twice("relation", d.Name, d.Pos)
			strange(d.Fields, nil, d.Pos)
		}
		for _, n := range m.Nevers {
			twice("never", n.Name, n.Pos)
		}
	}
	return failures
}

func wrongTotals(l []api.Module) []failure {
	var all api.Module
	for _, m := range l {
		all.Types, all.Rels = append(all.Types, m.Types...), append(all.Rels, m.Rels...)
		all.Rules, all.Nevers = append(all.Rules, m.Rules...), append(all.Nevers, m.Nevers...)
	}
	if len(all.Types) > 64 || len(all.Rels) > 64 || len(all.Rules) > 256 || len(all.Nevers) > 256 {
		return []failure{{e: api.ErrFull}}
	}
	return nil
}

// meanings are all texts that have one in a module, by their kinds, with what they mean.
func meanings(m api.Module, l []api.Module) map[int]map[string]string {
	all := map[int]map[string]string{ofType: {}, ofCons: {}, ofRel: {}, ofNever: {}}
	for _, i := range m.Imports {
		for _, x := range declaredBy(&l[placeOf(l, i.Name)]) {
			if x.pub {
				all[x.kind][i.Name+"."+*x.name] = i.Name + "." + *x.name
			}
		}
	}
	for _, x := range declaredBy(&m) {
		all[x.kind][*x.name] = m.Name + "." + *x.name
		all[x.kind][m.Name+"."+*x.name] = m.Name + "." + *x.name
	}
	return all
}

func wrongNames(l []api.Module) []failure {
	var failures []failure
	for _, m := range l {
		all := meanings(m, l)
		for _, x := range usesIn(&m) {
			meaning, there := all[x.kind][*x.name]
			if !there || x.head && !strings.HasPrefix(meaning, m.Name+".") {
				failures = append(failures, failure{whereIn(m.Name, x.pos), api.ErrName})
			}
		}
	}
	return failures
}

// oracle is what Flatten returns, as the chapter says it.
func oracle(l []api.Module) (api.Module, module.Where, api.Errno) {
	if failures := failuresOf(l); len(failures) > 0 {
		return api.Module{}, failures[0].at, failures[0].e
	}
	program := api.Module{Name: l[0].Name}
	for _, m := range l {
		all := meanings(m, l)
		m = copied(m)
		for _, x := range append(declaredBy(&m), usesIn(&m)...) {
			*x.name = all[x.kind][*x.name]
		}
		program.Types, program.Rels = append(program.Types, m.Types...), append(program.Rels, m.Rels...)
		program.Rules, program.Nevers = append(program.Rules, m.Rules...), append(program.Nevers, m.Nevers...)
	}
	return program, module.Where{}, api.OK
}

// checkOracle requires of any modules what the chapter says of them.
func checkOracle(t *testing.T, what string, l []api.Module) api.Errno {
	t.Helper()
	want, place, error := oracle(l)
	m, at, e := module.Flatten(l)
	if e != error || at != place || !reflect.DeepEqual(plain(m), plain(want)) {
		t.Errorf("%s: %v at %+v, not %v at %+v: %d modules", what, e, at, error, place, len(l))
		for _, m := range l {
			s, _ := tree.Print(m)
			t.Log(brief(s))
		}
	}
	return e
}

// TestP8_1RandomPrograms has modules in which all names have a meaning, so that the whole program is known before.
func TestP8_1RandomPrograms(t *testing.T) {
	g := newGenerator(2)
	rules := 0
	for range 600 {
		x := g.modules(8, 3)
		checkModules(t, "random modules", x.given, x.want)
		checkOracle(t, "random modules", x.given)
		rules += len(x.want.Rules)
	}
	if rules < 2000 {
		t.Errorf("only %d rules", rules)
	}
}

// TestErrorsRandomModules has modules that are right but for one or two things.
func TestErrorsRandomModules(t *testing.T) {
	g := newGenerator(3)
	found := map[api.Errno]int{}
	for range 8000 {
		l := g.modules(4, 3).given
		for range 1 + g.IntN(2) {
			l = g.spoil(l)
		}
		found[checkOracle(t, "spoiled modules", l)]++
	}
	for _, e := range []api.Errno{api.OK, api.ErrArg, api.ErrForm, api.ErrTwice, api.ErrName, api.ErrCycle} {
		if found[e] < 50 {
			t.Errorf("only %d times: %v", found[e], e)
		}
	}
}

// spoil changes some one thing in modules.
func (g *generator) spoil(l []api.Module) []api.Module {
	if len(l) == 0 {
		return l
	}
	i := g.IntN(len(l))
	m := &l[i]
	switch g.IntN(8) {
	case 0:
		return slices.Delete(l, i, i+1)
	case 1:
		m.Name = g.name()
	case 2, 3:
		if uses := usesIn(m); len(uses) > 0 {
			*pick(g, uses...).name = pick(g, g.name(), pick(g, l...).Name+"."+g.name(), g.name()+"."+g.name())
		}
	case 4:
		if all := declaredBy(m); len(all) > 0 {
			*pick(g, all...).name = pick(g, g.name(), g.name(), g.name(), "int")
		}
	case 5:
		g.spoilImports(m)
	case 6:
		g.spoilTypes(m)
	case 7:
		g.spoilPub(m)
	}
	return l
}

func (g *generator) spoilImports(m *api.Module) {
	n := len(m.Imports)
	switch {
	case n == 0 || g.chance(3):
		m.Imports = append(m.Imports, api.Import{Pos: g.pos(), Name: g.name()})
	case g.chance(2):
		m.Imports[g.IntN(n)].Name = g.name()
	default:
		i := g.IntN(n)
		m.Imports = slices.Delete(m.Imports, i, i+1)
	}
}

func (g *generator) spoilTypes(m *api.Module) {
	var fields []*api.FieldDef
	for i := range m.Types {
		if g.chance(2) {
			m.Types[i].Params = slices.Clone(pick(g, nil, []string{"'a"}, []string{"'b", "'c", "'b"}, []string{"'a", "'a"}))
		}
		for k := range m.Types[i].Cons {
			for j := range m.Types[i].Cons[k].Fields {
				fields = append(fields, &m.Types[i].Cons[k].Fields[j])
			}
		}
	}
	for i := range m.Rels {
		for k := range m.Rels[i].Fields {
			fields = append(fields, &m.Rels[i].Fields[k])
		}
	}
	if len(fields) > 0 {
		*pick(g, typesIn(&pick(g, fields...).Type)...) = api.Type{Name: pick(g, "'a", "'b", "int", "'a")}
	}
}

func (g *generator) spoilPub(m *api.Module) {
	for i := range m.Types {
		m.Types[i].Pub = m.Types[i].Pub != g.chance(2)
	}
	for i := range m.Rels {
		m.Rels[i].Pub = m.Rels[i].Pub != g.chance(2)
	}
}
