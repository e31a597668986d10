package infer_test

import (
	"slices"
	"strings"
	"testing"

	"corollary/api"
	"corollary/infer"
)

// checkRead holds Make against an independent reading of the chapter.
func checkRead(t *testing.T, m api.Module) api.Errno {
	t.Helper()
	want, first := readAll(m)
	got, at, e := infer.Make(m)
	if e != first.e || at != first.at || !same(got, want) {
		t.Fatalf("%v at %v, not %v at %v\n%s\n%s", e, at, first.e, first.at, shownTypes(got), shownTypes(want))
	}
	return e
}

// TestP11_1RandomModules has modules with few faults or none.
func TestP11_1RandomModules(t *testing.T) {
	g := newGenerator(1)
	seen := map[api.Errno]int{}
	for range 5000 {
		m := g.module(2)
		g.spoil(&m, g.IntN(4))
		seen[checkRead(t, m)]++
	}
	if seen[api.OK] < 1000 || seen[api.ErrType] < 2000 || seen[api.ErrForm] < 100 {
		t.Errorf("%v", seen)
	}
}

// consistent are literals of variables that have types, as texts, in which these fit.
func consistent(vars map[string]string) []string {
	var l []string
	for x, a := range vars {
		switch a {
		case "int":
			l = append(l, "n("+x+")", x+" = -"+x)
		case "pt":
			l = append(l, "pt("+x+")")
		}
		for y, b := range vars {
			if a == b {
				l = append(l, x+" = "+y, "("+x+" == "+y+")")
			}
			if b == "box("+a+")" {
				l = append(l, x+" = "+y+".v", x+" = "+y+".v", y+" = box("+x+")", "("+x+" == "+y+".v)")
			}
			if b == "pt" && a == "int" {
				l = append(l, x+" = "+y+".x", x+" = -"+y+".x")
			}
			for z, c := range vars {
				if c == "pair("+a+", "+b+")" {
					l = append(l, x+" = "+z+".first", y+" = "+z+".second", z+" = pair("+x+", "+y+")", "(("+x+", "+z+".second) == ("+z+".first, "+y+"))")
				}
			}
		}
	}
	slices.Sort(l)
	return l
}

// TestP11_1RandomBodies has literals of few variables in all orders, so that much becomes known only by others; some with one that does not fit.
func TestP11_1RandomBodies(t *testing.T) {
	g := newGenerator(2)
	types := strings.Split("int; box(int); box(box(int)); pair(box(int), pt); pt; pair(int, int); box(pair(int, int)); box(box(box(int))); pair(pair(int, int), box(pt)); box(pt); pair(pair(box(int), pt), int)", "; ")
	others := []string{"A = B.first", "B = C.x", "D = E.y", "A = B.v", "C = B.second", "A = -B", "B = (1)", "B = box(true)", "C = Z.v", "A = Y.x"}
	seen := map[api.Errno]int{}
	fields := 0
	for range 5000 {
		vars := map[string]string{}
		for i := range 3 + g.IntN(5) {
			vars[string(rune('A'+i))] = pick(g, types...)
		}
		fitting := consistent(vars)
		body := many(g, 1, 9, func() string { return pick(g, fitting...) })
		for range g.IntN(4) {
			name := string(rune('A' + g.IntN(len(vars))))
			anchor := name + " = " + strings.NewReplacer("int", "1", "pt", `pt(1, "a")`).Replace(vars[name])
			body = slices.Insert(body, pick(g, len(body), g.IntN(len(body)+1)), anchor)
		}
		if g.chance(4) {
			body[g.IntN(len(body))] = pick(g, others...)
		}
		text := "p() :- " + strings.Join(body, ", ") + "."
		e := checkRead(t, moduleOf(t, declared+text))
		seen[e]++
		if e == api.OK {
			fields += strings.Count(text, ".") - 1
		}
	}
	if seen[api.OK] < 1000 || seen[api.ErrType] < 1000 || fields < 1000 {
		t.Errorf("%v, %d fields", seen, fields)
	}
}
