package infer

import (
	"slices"

	"corollary/api"
	"corollary/decl"
	"corollary/unify"
)

// program is what is declared, as rules use it.
type program struct {
	constructors map[string]decl.Cons
	records      map[string]decl.Cons      // the constructor of each type that has no other one
	rels         map[string][]api.FieldDef // the fields of each relation
	operators    map[string]operator
}

// newProgram takes everything from the table once, since all that it tells is new memory each time.
func newProgram(m api.Module, table *decl.Table) *program {
	p := &program{map[string]decl.Cons{}, map[string]decl.Cons{}, map[string][]api.FieldDef{}, newOperators()}
	for _, d := range m.Types {
		for _, c := range d.Cons {
			p.constructors[c.Name], _ = table.Cons(c.Name)
			if len(d.Cons) == 1 {
				p.records[d.Name] = p.constructors[c.Name]
			}
		}
	}
	for _, d := range m.Rels {
		known, _ := table.Rel(d.Name)
		p.rels[d.Name] = known.Fields
	}
	return p
}

// declaredFault is the first type or relation with a field whose type cannot be unified, or, in a relation, is not known to the last part.
func declaredFault(m api.Module) fault {
	for _, d := range m.Types {
		if slices.ContainsFunc(d.Cons, func(c api.ConsDef) bool { return slices.ContainsFunc(c.Fields, isTooLarge) }) {
			return fault{d.Pos, api.ErrTooLarge}
		}
	}
	for _, d := range m.Rels {
		if slices.ContainsFunc(d.Fields, isTooLarge) {
			return fault{d.Pos, api.ErrTooLarge}
		}
		if slices.ContainsFunc(d.Fields, hasParameter) {
			return fault{d.Pos, api.ErrType}
		}
	}
	return fault{}
}

func isTooLarge(f api.FieldDef) bool { return !unify.May(f.Type) }

func hasParameter(f api.FieldDef) bool { return len(unify.Vars([]api.Type{f.Type})) > 0 }

// ofNever are the types of the variables of a never, which is as a rule without a head.
func (p *program) ofNever(n api.Never) ([]Var, fault) {
	return p.ofRule(api.Rule{Pos: n.Pos, Body: n.Body})
}

// ofRule are the types of a rule's variables.
func (p *program) ofRule(r api.Rule) ([]Var, fault) {
	if e := formError(r); e != api.OK {
		return nil, fault{r.Pos, e}
	}
	t := p.newTyping()
	for _, l := range r.Body {
		t.literal(l)
	}
	t.head(r)
	for _, required := range [][]requirement{t.alike, t.fields, t.numbers} {
		if at, met := meet(required); !met {
			return nil, fault{at, api.ErrType}
		}
	}
	vars, e := t.resolved()
	if e != api.OK {
		return nil, fault{r.Pos, e}
	}
	return vars, fault{}
}
