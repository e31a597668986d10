package module_test

import (
	"strconv"
	"strings"
	"testing"

	"corollary/api"
	"corollary/module"
)

// counted is one of those of which there may be only so many in all modules together.
type counted struct {
	what string
	most int
	add  func(m *api.Module, name string)
	of   func(m api.Module) int
}

func allCounted() []counted {
	return []counted{
		{"types", 64, func(m *api.Module, name string) {
			m.Types = append(m.Types, api.TypeDef{Name: name, Cons: []api.ConsDef{{Name: name}}})
		}, func(m api.Module) int { return len(m.Types) }},
		{"relations", 64, func(m *api.Module, name string) { m.Rels = append(m.Rels, api.RelDef{Name: name}) }, func(m api.Module) int { return len(m.Rels) }},
		{"rules", 256, func(m *api.Module, name string) { m.Rules = append(m.Rules, api.Rule{Rel: "p"}) }, func(m api.Module) int { return len(m.Rules) }},
		{"nevers", 256, func(m *api.Module, name string) {
			m.Nevers = append(m.Nevers, api.Never{Name: name, Body: []api.Literal{{Kind: api.Atom, Rel: "p"}}})
		}, func(m api.Module) int { return len(m.Nevers) }},
	}
}

// withCounts are modules that declare p, and of something as many in all as there are in the list.
func withCounts(x counted, counts []int) []api.Module {
	var l []api.Module
	for i, n := range counts {
		m := api.Module{Name: "m" + strconv.Itoa(i)}
		if x.what != "relations" {
			m.Rels = []api.RelDef{{Name: "p"}}
		}
		for k := range n {
			x.add(&m, "n"+strconv.Itoa(k))
		}
		l = append(l, m)
	}
	return l
}

// TestErrorsTotals has as many of each as there may be, and one more, in one module and in several.
func TestErrorsTotals(t *testing.T) {
	for _, x := range allCounted() {
		part := x.most / 8
		for _, counts := range [][]int{{x.most}, {x.most, 0}, {0, x.most}, {x.most - 1, 1}, {1, x.most - 1}, {0, x.most / 2, 0, x.most / 2}, {part, part, part, part, part, part, part, part}, {x.most - 2, 1, 0, 1}} {
			l := withCounts(x, counts)
			if m := flat(t, l...); x.of(m) != x.most {
				t.Errorf("%s, %v: %d", x.what, counts, x.of(m))
			}
			for i, n := range counts {
				more := copied(l)
				x.add(&more[i], "more")
				at := module.Where{}
				if n == x.most {
					at.Module = more[i].Name // more than one module may have: an error of layer 6
				}
				checkRefused(t, x.what, more, at, api.ErrFull)
			}
			if len(counts) < 8 {
				more := append(copied(l), api.Module{Name: "last", Rels: []api.RelDef{{Name: "p"}}})
				x.add(&more[len(more)-1], "more")
				checkRefused(t, x.what+" in one more module", more, module.Where{}, api.ErrFull)
			}
		}
	}
}

// TestErrorsTotalsOfAll has as many of all kinds as there may be, and then one more of each.
func TestErrorsTotalsOfAll(t *testing.T) {
	l := []api.Module{{Name: "a"}, {Name: "b", Rels: []api.RelDef{{Name: "p"}}}, {Name: "c"}}
	for _, x := range allCounted() {
		most := x.most
		if x.what == "relations" {
			most--
		}
		for k := range most {
			i := k % 3
			if x.what == "rules" || x.what == "nevers" {
				i = 1 // where p is
			}
			x.add(&l[i], "n"+strconv.Itoa(k))
		}
	}
	m := flat(t, l...)
	for _, x := range allCounted() {
		if x.of(m) != x.most {
			t.Errorf("%s: %d", x.what, x.of(m))
		}
		more := copied(l)
		x.add(&more[0], "more")
		checkRefused(t, x.what, more, module.Where{}, api.ErrFull)
	}
}

// TestP8_1LongNames has names as long as they may be; qualified, they are longer.
func TestP8_1LongNames(t *testing.T) {
	long := strings.Repeat("n", 32)
	m := api.Module{
		Name:   long,
		Types:  []api.TypeDef{{Name: long, Params: []string{"'" + long}, Cons: []api.ConsDef{{Name: long, Fields: []api.FieldDef{{Name: long, Type: api.Type{Name: long, Args: []api.Type{{Name: long + "." + long}, {Name: "'" + long}}}}}}}}},
		Rels:   []api.RelDef{{Name: long}},
		Rules:  []api.Rule{{Rel: long, Args: []api.Expr{{Kind: api.Make, Name: long}}, Aggs: []string{""}}},
		Nevers: []api.Never{{Name: long, Body: []api.Literal{{Kind: api.Not, Rel: long}}}},
	}
	want := copied(m)
	for _, x := range append(declaredBy(&want), usesIn(&want)...) {
		*x.name = long + "." + long
	}
	checkModules(t, "long names", []api.Module{m}, want)
	other := api.Module{Name: "m", Imports: []api.Import{{Name: long}}, Rels: []api.RelDef{{Name: "p"}}, Rules: []api.Rule{{Rel: "p", Body: []api.Literal{{Kind: api.Atom, Rel: long + "." + long}}}}}
	checkRefused(t, "long names of another module", []api.Module{m, other}, whereIn("m", api.Pos{}), api.ErrName)
	m.Rels[0].Pub, want.Rels[0].Pub = true, true
	want.Rels = append(want.Rels, api.RelDef{Name: "m.p"})
	want.Rules = append(want.Rules, api.Rule{Rel: "m.p", Body: []api.Literal{{Kind: api.Atom, Rel: long + "." + long}}})
	checkModules(t, "long names of another module", []api.Module{m, other}, want)
}

// TestP8_1ManyParts has as many constructors, fields, parameters, arguments, items and literals as there may be, each with a name.
func TestP8_1ManyParts(t *testing.T) {
	field := func() api.FieldDef { return api.FieldDef{Name: "f", Type: api.Type{Name: "t"}} }
	maker := func() api.Expr { return api.Expr{Kind: api.Make, Name: "c0"} }
	tuple := api.Expr{Kind: api.Tup, Args: times(16, api.Expr{Kind: api.Make, Name: "c15", Args: times(8, maker())})}
	m := api.Module{
		Name:   "m",
		Types:  []api.TypeDef{{Name: "t", Params: strings.Fields("'a 'b 'c 'd 'e 'f 'g 'h")}},
		Rels:   []api.RelDef{{Name: "p", Fields: times(8, field())}},
		Rules:  []api.Rule{{Rel: "p", Args: times(8, tuple), Aggs: make([]string, 8), Body: times(12, api.Literal{Kind: api.Not, Rel: "p", Args: times(8, tuple)})}},
		Nevers: []api.Never{{Name: "n", Body: times(12, api.Literal{Kind: api.Atom, Rel: "p", Args: times(8, tuple)})}},
	}
	for n := range 16 {
		m.Types[0].Cons = append(m.Types[0].Cons, api.ConsDef{Name: "c" + strconv.Itoa(n), Fields: times(8, api.FieldDef{Type: api.Type{Name: "tuple", Args: times(16, api.Type{Name: "t", Args: times(8, api.Type{Name: "'h"})})}})})
	}
	want := copied(m)
	for _, x := range append(declaredBy(&want), usesIn(&want)...) {
		*x.name = "m." + *x.name
	}
	checkModules(t, "many parts", []api.Module{m}, want)
}
