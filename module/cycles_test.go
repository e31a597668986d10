package module_test

import (
	"slices"
	"strconv"
	"testing"

	"corollary/api"
)

// TestErrorsCycles has imports that lead back over one, two and several modules, and those that do not.
func TestErrorsCycles(t *testing.T) {
	a, b, c := "module a", "module b", "module c"
	checkRefusedAt(t, api.ErrCycle, "module m ^import m")
	checkRefusedAt(t, api.ErrCycle, "module m import a ^import m import b", a, b)
	checkRefusedAt(t, api.ErrCycle, "module m ^import a", "module a import m")
	checkRefusedAt(t, api.ErrCycle, "module a ^import m", "module m import a")
	checkRefusedAt(t, api.ErrCycle, "module m import b ^import a", "module a import b import m", b)
	checkRefusedAt(t, api.ErrCycle, "module m ^import a import b", "module a import b", "module b import m")
	checkRefusedAt(t, api.ErrCycle, "module m import c ^import b", "module a import m", "module b import c import a", c)
	checkRefusedAt(t, api.ErrCycle, "module m import a", a, "module b ^import c", "module c import b")
	checkRefusedAt(t, api.ErrCycle, "module m import a import b", "module a ^import b", "module b import a")
	checkRefusedAt(t, api.ErrCycle, "module m import a", "module a import b", "module b import c ^import b", c)
	checkRefusedAt(t, api.ErrCycle, "module m import a", "module a import b", "module b import c", "module c ^import c")
	checkRefusedAt(t, api.ErrCycle, "module m import a rel p() never p :- p(). never p :- p().", "module a ^import b type t = t | t", "module b import a")
	checkAccepted(t, "module m import a import b import c", "module a import b import c", "module b import c", c)
	checkAccepted(t, "module c", "module b import c", "module a import b import c", "module m import c import a import b")
	checkAccepted(t, a, "module m import a", b, "module n import b import a", c)
}

// around are modules each of which imports the next one, and the last one imports the one at a place: nothing, if there is none.
func around(n, back int) []api.Module {
	var l []api.Module
	for i := range n {
		next := i + 1
		if next == n {
			next = back
		}
		m := api.Module{Name: "m" + strconv.Itoa(i)}
		if next >= 0 {
			m.Imports = []api.Import{{Name: "m" + strconv.Itoa(next), Pos: api.Pos{Line: 2, Col: i}}}
		}
		l = append(l, m)
	}
	return l
}

// TestErrorsCyclesOfEachLength has circles of up to as many modules as there may be, with modules before them.
func TestErrorsCyclesOfEachLength(t *testing.T) {
	for n := 1; n <= 8; n++ {
		checkModules(t, "a chain", around(n, none), api.Module{Name: "m0"})
		backward := around(n, none)
		slices.Reverse(backward)
		checkModules(t, "a chain from its end", backward, api.Module{Name: backward[0].Name})
		for back := range n {
			l := around(n, back)
			checkRefused(t, "a circle", l, whereIn(l[back].Name, l[back].Imports[0].Pos), api.ErrCycle)
			slices.Reverse(l)
			checkRefused(t, "a circle from its end", l, whereIn(l[0].Name, l[0].Imports[0].Pos), api.ErrCycle)
		}
	}
}

// TestErrorsAllImports has up to three modules with all imports that may be among them, in some order, and many of more modules.
func TestErrorsAllImports(t *testing.T) {
	g := newGenerator(4)
	connected := func(n int, is func(from, to int) bool) {
		var l []api.Module
		for i := range n {
			m := api.Module{Name: "m" + strconv.Itoa(i)}
			for _, k := range g.Perm(n) {
				if is(i, k) {
					m.Imports = append(m.Imports, api.Import{Name: "m" + strconv.Itoa(k), Pos: g.pos()})
				}
			}
			l = append(l, m)
		}
		g.Shuffle(n, func(i, k int) { l[i], l[k] = l[k], l[i] })
		checkOracle(t, "imports", l)
	}
	for n := 1; n <= 3; n++ {
		for all := range 1 << (n * n) {
			connected(n, func(from, to int) bool { return all>>(from*n+to)&1 == 1 })
		}
	}
	for range 2000 {
		connected(4+g.IntN(5), func(from, to int) bool { return g.chance(7) })
	}
}
