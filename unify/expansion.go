package unify

import "corollary/api"

// expansion makes types of which all together have no more than some parts. If they do, parts is below 0 from then on,
// and nothing more is made.
type expansion struct {
	*bindings
	parts int
}

// typed is a type, resolved, of up to so many levels.
func (e *expansion) typed(x api.Type, levels int) api.Type {
	if n, known := e.vars[x.Name]; known {
		return e.numbered(n, levels)
	}
	return e.made(x.Name, len(x.Args), levels, func(i int) api.Type { return e.typed(x.Args[i], levels-1) })
}

// numbered is what a term stands for, resolved, of up to so many levels.
func (e *expansion) numbered(n, levels int) api.Type {
	x := e.terms[e.root(n)]
	return e.made(x.name, len(x.args), levels, func(i int) api.Type { return e.numbered(x.args[i], levels-1) })
}

// made is a type of a name and its arguments.
func (e *expansion) made(name string, n, levels int, arg func(i int) api.Type) api.Type {
	e.parts--
	if levels == 0 {
		e.parts = -1
	}
	if e.parts < 0 {
		return api.Type{}
	}
	return api.Type{Name: name, Args: list(n, arg)}
}
