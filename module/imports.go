package module

import (
	"slices"

	"corollary/api"
	"corollary/tree"
)

// requireModules refuses modules that are too few, too many, or not as layer 6 has them, and two of one name.
func requireModules(l []api.Module) {
	switch {
	case len(l) == 0:
		throw(Where{}, api.ErrArg)
	case len(l) > api.MaxModules:
		throw(Where{}, api.ErrFull)
	}
	for i, m := range l {
		at := Where{Module: m.Name}
		if e := tree.Check(m); e != api.OK {
			throw(at, e)
		}
		if hasModule(l[:i], m.Name) {
			throw(at, api.ErrTwice)
		}
	}
}

func hasModule(l []api.Module, name string) bool {
	return slices.ContainsFunc(l, func(m api.Module) bool { return m.Name == name })
}

// link is an import: of which module it is, and which one it names.
type link struct{ from, to string }

// importsOf are those of all modules. One of no module is refused, and one that is there already.
func importsOf(l []api.Module) map[link]bool {
	imports := map[link]bool{}
	for _, m := range l {
		for _, i := range m.Imports {
			at, x := Where{m.Name, i.Pos}, link{m.Name, i.Name}
			if !hasModule(l, i.Name) {
				throw(at, api.ErrName)
			}
			if imports[x] {
				throw(at, api.ErrTwice)
			}
			imports[x] = true
		}
	}
	return imports
}

// requireNoCycle refuses an import from which imports lead back.
func requireNoCycle(l []api.Module, imports map[link]bool) {
	for _, m := range l {
		for _, i := range m.Imports {
			if leads(l, imports, i.Name, m.Name) {
				throw(Where{m.Name, i.Pos}, api.ErrCycle)
			}
		}
	}
}

// leads tells whether imports lead from a module to one, which may be itself.
func leads(l []api.Module, imports map[link]bool, from, to string) bool {
	seen := map[string]bool{}
	var reach func(name string) bool
	reach = func(name string) bool {
		if name == to {
			return true
		}
		if seen[name] {
			return false
		}
		seen[name] = true
		return slices.ContainsFunc(l, func(m api.Module) bool { return imports[link{name, m.Name}] && reach(m.Name) })
	}
	return reach(from)
}
