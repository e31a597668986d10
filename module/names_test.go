package module_test

import (
	"strings"

	"corollary/api"
)

// Kinds of names.
const (
	ofType = 1 + iota
	ofCons
	ofRel
	ofNever
)

// named is a name in a module: as what it is declared or used, and where an error of it is.
type named struct {
	kind int
	name *string
	pos  api.Pos
	pub  bool // declared, and visible in other modules
	head bool // used in a head
}

// declaredBy are all names that a module declares, in their order.
func declaredBy(m *api.Module) []named {
	var l []named
	for i := range m.Types {
		d := &m.Types[i]
		l = append(l, named{kind: ofType, name: &d.Name, pos: d.Pos, pub: d.Pub})
		for k := range d.Cons {
			l = append(l, named{kind: ofCons, name: &d.Cons[k].Name, pos: d.Pos, pub: d.Pub})
		}
	}
	for i := range m.Rels {
		d := &m.Rels[i]
		l = append(l, named{kind: ofRel, name: &d.Name, pos: d.Pos, pub: d.Pub})
	}
	for i := range m.Nevers {
		l = append(l, named{kind: ofNever, name: &m.Nevers[i].Name, pos: m.Nevers[i].Pos})
	}
	return l
}

// usesIn are all names that a module uses, in the order of the chapter's errors.
func usesIn(m *api.Module) []named {
	var l []named
	for i := range m.Types {
		for k := range m.Types[i].Cons {
			l = append(l, usesInFields(m.Types[i].Cons[k].Fields, m.Types[i].Pos)...)
		}
	}
	for i := range m.Rels {
		l = append(l, usesInFields(m.Rels[i].Fields, m.Rels[i].Pos)...)
	}
	for i := range m.Rules {
		r := &m.Rules[i]
		l = append(l, named{kind: ofRel, name: &r.Rel, pos: r.Pos, head: true})
		l = append(append(l, usesInExprs(r.Args)...), usesInBody(r.Body)...)
	}
	for i := range m.Nevers {
		l = append(l, usesInBody(m.Nevers[i].Body)...)
	}
	return l
}

func usesInFields(fields []api.FieldDef, pos api.Pos) []named {
	var l []named
	for i := range fields {
		for _, x := range typesIn(&fields[i].Type) {
			if !strings.Contains(" bool int big text tuple ", " "+x.Name+" ") && x.Name[0] != '\'' {
				l = append(l, named{kind: ofType, name: &x.Name, pos: pos})
			}
		}
	}
	return l
}

// typesIn are a type and all types in it.
func typesIn(x *api.Type) []*api.Type {
	l := []*api.Type{x}
	for i := range x.Args {
		l = append(l, typesIn(&x.Args[i])...)
	}
	return l
}

func usesInExprs(exprs []api.Expr) []named {
	var l []named
	for i := range exprs {
		e := &exprs[i]
		if e.Kind == api.Make {
			l = append(l, named{kind: ofCons, name: &e.Name, pos: e.Pos})
		}
		l = append(l, usesInExprs(e.Args)...)
	}
	return l
}

func usesInBody(body []api.Literal) []named {
	var l []named
	for i := range body {
		x := &body[i]
		if x.Kind == api.Atom || x.Kind == api.Not {
			l = append(l, named{kind: ofRel, name: &x.Rel, pos: x.Pos})
		}
		l = append(l, usesInExprs(x.Args)...)
	}
	return l
}
