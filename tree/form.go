package tree

import (
	"strings"

	"corollary/api"
	"corollary/value"
)

// forms tell whether parts of a module are as they must be to be printed, apart from depths, and from how many parts a module and a body have.
type forms struct {
	operators map[string]int // with the number of their arguments
}

func newForms() forms { return forms{newOperators()} }

// all tells whether something is true of each in a list.
func all[T any](l []T, is func(T) bool) bool {
	for _, x := range l {
		if !is(x) {
			return false
		}
	}
	return true
}

func (f forms) module(m api.Module) bool {
	return isName(m.Name) &&
		all(m.Imports, func(i api.Import) bool { return isName(i.Name) }) &&
		all(m.Types, isTypeDef) &&
		all(m.Rels, isRelDef) &&
		all(m.Rules, f.rule) &&
		all(m.Nevers, f.never)
}

func isTypeDef(d api.TypeDef) bool {
	return isName(d.Name) &&
		len(d.Params) <= api.MaxFields && all(d.Params, isParameter) &&
		0 < len(d.Cons) && len(d.Cons) <= api.MaxCons && all(d.Cons, isConsDef)
}

func isConsDef(d api.ConsDef) bool { return isName(d.Name) && areFields(d.Fields, isNameOrNone) }

func isRelDef(d api.RelDef) bool { return isName(d.Name) && areFields(d.Fields, isName) }

// areFields tells whether a constructor or a relation may have these fields, with names as they may be there.
func areFields(l []api.FieldDef, named func(string) bool) bool {
	return len(l) <= api.MaxFields && all(l, func(d api.FieldDef) bool { return named(d.Name) && isType(d.Type) })
}

func isType(t api.Type) bool {
	if !all(t.Args, isType) {
		return false
	}
	switch t.Name {
	case "bool", "int", "big", "text":
		return len(t.Args) == 0
	case "tuple":
		return isTupleOf(len(t.Args))
	}
	if strings.HasPrefix(t.Name, "'") {
		return isParameter(t.Name) && len(t.Args) == 0
	}
	return isLongName(t.Name) && len(t.Args) <= api.MaxFields
}

// isTupleOf tells whether a tuple may have so many parts.
func isTupleOf(n int) bool { return n == 0 || 2 <= n && n <= api.MaxItems }

func (f forms) rule(r api.Rule) bool {
	return isLongName(r.Rel) &&
		len(r.Args) <= api.MaxFields && all(r.Args, f.expression) &&
		len(r.Aggs) == len(r.Args) && all(r.Aggs, isAggregateOrNone) &&
		all(r.Body, f.literal)
}

func isAggregateOrNone(s string) bool { return s == "" || isAggregate(s) }

func (f forms) never(n api.Never) bool {
	return isName(n.Name) && 0 < len(n.Body) && all(n.Body, f.literal)
}

func (f forms) literal(l api.Literal) bool {
	switch l.Kind {
	case api.Atom, api.Not:
		return isLongName(l.Rel) && len(l.Args) <= api.MaxFields && all(l.Args, isPattern)
	case api.Cond:
		return l.Rel == "" && len(l.Args) == 1 && f.expression(l.Args[0])
	case api.Bind:
		return isVariable(l.Rel) && len(l.Args) == 1 && f.expression(l.Args[0])
	}
	return false
}

func isPattern(e api.Expr) bool {
	if e.Kind == api.Any {
		return e.Name == "" && isNoValue(e.Value) && len(e.Args) == 0
	}
	return isEither(e) && all(e.Args, isPattern)
}

func (f forms) expression(e api.Expr) bool {
	return (isEither(e) || f.isComputed(e)) && all(e.Args, f.expression)
}

// isEither tells whether a pattern, or an expression, may be so, apart from its arguments.
func isEither(e api.Expr) bool {
	hasName, hasValue, hasArgs := e.Name != "", !isNoValue(e.Value), len(e.Args) > 0
	switch e.Kind {
	case api.Lit:
		return !hasName && isLiteral(e.Value) && !hasArgs
	case api.Var:
		return isVariable(e.Name) && !hasValue && !hasArgs
	case api.Tup:
		return !hasName && !hasValue && isTupleOf(len(e.Args))
	case api.Make:
		return isLongName(e.Name) && !hasValue && len(e.Args) <= api.MaxFields
	}
	return false
}

// isComputed tells whether an expression that is no pattern may be so, apart from its arguments.
func (f forms) isComputed(e api.Expr) bool {
	if !isNoValue(e.Value) {
		return false
	}
	switch e.Kind {
	case api.Call:
		n, known := f.operators[e.Name]
		return known && len(e.Args) == n
	case api.Field:
		return isName(e.Name) && len(e.Args) == 1
	case api.If:
		return e.Name == "" && len(e.Args) == 3
	}
	return false
}

// isLiteral tells whether a value may be written as a literal: Tuples and Cons are written as expressions of their own.
func isLiteral(v api.Value) bool {
	switch v.Kind {
	case api.Bool, api.Int, api.Big, api.Text:
		return value.Check(v) == api.OK
	}
	return false
}

func isNoValue(v api.Value) bool { return v.Kind == 0 && v.N == 0 && v.S == "" && len(v.L) == 0 }
