package infer

import (
	"slices"

	"corollary/api"
	"corollary/decl"
	"corollary/unify"
)

// typing is the types in one rule, or one never, and what is required of them.
type typing struct {
	*program
	table *unify.Table
	vars  map[string]api.Type
	names []string // of the variables, in the order of their first occurrence

	alike, fields, numbers []requirement
}

func (p *program) newTyping() *typing {
	return &typing{program: p, table: unify.New(), vars: map[string]api.Type{}}
}

func typeOf(name string) api.Type { return api.Type{Name: name} }

// literal enters a literal of a body.
func (t *typing) literal(l api.Literal) {
	switch l.Kind {
	case api.Cond:
		t.requireAlike(l.Pos, t.entered(l.Args[0]), typeOf("bool"))
	case api.Bind:
		variable := t.variable(l.Rel) // before those in the expression
		t.requireAlike(l.Pos, variable, t.entered(l.Args[0]))
	default:
		for i, arg := range l.Args {
			t.requireAlike(arg.Pos, t.entered(arg), t.rels[l.Rel][i].Type)
		}
	}
}

// head enters the head of a rule.
func (t *typing) head(r api.Rule) {
	for i, arg := range r.Args {
		x := t.entered(arg)
		if r.Aggs[i] == "count" {
			x = typeOf("int")
		}
		t.requireAlike(arg.Pos, x, t.rels[r.Rel][i].Type)
		if r.Aggs[i] == "sum" {
			t.requireNumber(arg.Pos, x)
		}
	}
}

// entered is the type of an expression, or of a pattern. What is in it is entered before itself.
func (t *typing) entered(x api.Expr) api.Type {
	var args []api.Type
	for _, arg := range x.Args {
		args = append(args, t.entered(arg))
	}
	switch x.Kind {
	case api.Lit:
		return literalType(x.Value.Kind)
	case api.Var:
		return t.variable(x.Name)
	case api.Tup:
		return api.Type{Name: "tuple", Args: args}
	case api.Make:
		return t.constructed(x, args)
	case api.Call:
		return t.called(x, args)
	case api.Field:
		return t.field(x, args[0])
	case api.If:
		t.requireAlike(x.Pos, args[0], typeOf("bool"))
		t.requireAlike(x.Pos, args[1], args[2])
		return args[1]
	}
	return t.table.Var() // anything
}

func literalType(kind uint8) api.Type {
	switch kind {
	case api.Bool:
		return typeOf("bool")
	case api.Int:
		return typeOf("int")
	case api.Big:
		return typeOf("big")
	}
	return typeOf("text")
}

func (t *typing) variable(name string) api.Type {
	x, known := t.vars[name]
	if !known {
		x = t.table.Var()
		t.vars[name] = x
		t.names = append(t.names, name)
	}
	return x
}

func (t *typing) constructed(x api.Expr, args []api.Type) api.Type {
	c := t.constructors[x.Name]
	result := typeOf(c.Type)
	for range c.Params {
		result.Args = append(result.Args, t.table.Var())
	}
	for i, arg := range x.Args {
		t.requireAlike(arg.Pos, args[i], decl.Put(c.Fields[i].Type, c.Params, result.Args))
	}
	return result
}

func (t *typing) called(x api.Expr, args []api.Type) api.Type {
	required := t.operators[x.Name]
	if required.args == "" {
		for _, arg := range args[1:] {
			t.requireAlike(x.Pos, args[0], arg)
		}
	} else {
		for _, arg := range args {
			t.requireAlike(x.Pos, arg, typeOf(required.args))
		}
	}
	if required.number {
		t.requireNumber(x.Pos, args[0])
	}
	if required.result == "" {
		return args[0]
	}
	return typeOf(required.result)
}

// field is the type of a field of what has another type, which may become known later.
func (t *typing) field(x api.Expr, of api.Type) api.Type {
	result := t.table.Var()
	t.fields = append(t.fields, requirement{x.Pos, func() outcome {
		record, e := t.table.Resolve(of)
		if e != api.OK || unify.IsVar(record) {
			return isOpen
		}
		c := t.records[record.Name] // without fields, if it is none
		n := slices.IndexFunc(c.Fields, func(f api.FieldDef) bool { return f.Name == x.Name })
		if n < 0 {
			return isNotMet
		}
		return t.unify(decl.Put(c.Fields[n].Type, c.Params, record.Args), result)
	}})
	return result
}

// requireAlike requires that two types are the same.
func (t *typing) requireAlike(at api.Pos, x, y api.Type) {
	t.alike = append(t.alike, requirement{at, func() outcome { return t.unify(x, y) }})
}

// unify has two types be the same, if they can be, and are not too large.
func (t *typing) unify(x, y api.Type) outcome {
	if t.table.Unify(x, y) != api.OK {
		return isNotMet
	}
	return isMet
}

// requireNumber requires that a type is one of the two that have numbers.
func (t *typing) requireNumber(at api.Pos, x api.Type) {
	t.numbers = append(t.numbers, requirement{at, func() outcome {
		resolved, _ := t.table.Resolve(x)
		if resolved.Name != "int" && resolved.Name != "big" {
			return isNotMet
		}
		return isMet
	}})
}

// resolved are the variables with what their types have become, or the error that one of these is too large.
func (t *typing) resolved() ([]Var, api.Errno) {
	var types []api.Type
	for _, name := range t.names {
		x, e := t.table.Resolve(t.vars[name])
		if e != api.OK {
			return nil, e
		}
		types = append(types, x)
	}
	var vars []Var
	for i, x := range unify.Canon(types) {
		vars = append(vars, Var{t.names[i], x})
	}
	return vars, api.OK
}
