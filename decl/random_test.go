package decl_test

import (
	"testing"

	"corollary/api"
	"corollary/decl"
)

// TestErrorsOfRandomModules holds New against an independent reading of the chapter, for modules with few faults or none.
func TestErrorsOfRandomModules(t *testing.T) {
	g := newGenerator(1)
	seen := map[api.Errno]int{}
	for range 40000 {
		m := g.module()
		g.spoil(&m, g.IntN(4))
		at, want := firstWrong(m)
		seen[want]++
		x, p, e := decl.New(m)
		if e != want || p != at || (x == nil) != (e != api.OK) {
			t.Fatalf("%v at %v, not %v at %v: %+v", e, p, want, at, m)
		}
		if e == api.OK && g.chance(20) {
			checkDeclared(t, x, m)
		}
	}
	for _, e := range []api.Errno{api.OK, api.ErrTwice, api.ErrName, api.ErrType, api.ErrGrow, api.ErrNone, api.ErrState, api.ErrForm} {
		if seen[e] < 100 {
			t.Errorf("%v came %d times", e, seen[e])
		}
	}
}

// TestP10_2RandomTypesAndValues holds Well and Is against an independent reading of the chapter.
func TestP10_2RandomTypesAndValues(t *testing.T) {
	g := newGenerator(2)
	seen := map[bool]int{}
	for range 2000 {
		m := g.accepted()
		x, c := made(t, m), claims{m: m}
		var types []api.Type
		var values []api.Value
		for range 8 {
			a := g.typed(m, nil, 4)
			if g.chance(8) {
				a = g.typed(m, []string{"'a"}, 3)
			}
			if v, ok := g.valueOf(m, a, 8); ok {
				values = append(values, v, g.changed(m, v), g.changed(m, g.changed(m, v)))
			}
			types = append(types, a)
		}
		for _, a := range types {
			if x.Well(a) != c.isWell(a) {
				t.Errorf("Well(%s): %v", shown(a), x.Well(a))
			}
			for _, v := range values {
				want := c.isOf(v, a)
				seen[want]++
				if x.Is(v, a) != want {
					t.Errorf("Is(%s, %s): %v", textOf(v), shown(a), !want)
				}
			}
		}
	}
	if seen[true] < 10000 || seen[false] < 10000 {
		t.Errorf("%d have the type, %d have not", seen[true], seen[false])
	}
}

// TestP10_2RandomRows holds Row against an independent reading of the chapter.
func TestP10_2RandomRows(t *testing.T) {
	g := newGenerator(3)
	seen := map[api.Errno]int{}
	for range 5000 {
		m := g.accepted()
		x, c := made(t, m), claims{m: m}
		for _, d := range m.Rels {
			var l []api.Value
			want := api.OK
			for _, f := range d.Fields {
				v, _ := g.valueOf(m, f.Type, 8)
				if g.chance(4) {
					v = g.changed(m, v)
				}
				if !c.isOf(v, f.Type) {
					want = api.ErrType
				}
				l = append(l, v)
			}
			seen[want]++
			if e := x.Row(d.Name, l); e != want {
				t.Errorf("Row(%s): %v, not %v", d.Name, e, want)
			}
			if len(l) > 0 && x.Row(d.Name, l[1:]) != api.ErrType || x.Row(d.Name, append(l, num(1))) != api.ErrType {
				t.Errorf("Row(%s) of other numbers", d.Name)
			}
		}
	}
	if seen[api.OK] < 1000 || seen[api.ErrType] < 1000 {
		t.Errorf("%v", seen)
	}
}
