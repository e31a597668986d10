package infer

import (
	"slices"

	"corollary/api"
	"corollary/tree"
)

// formError is what is wrong with the form of a rule: first that something in it is too deep, wherever that is.
func formError(r api.Rule) api.Errno {
	switch {
	case slices.ContainsFunc(r.Args, isDeep), slices.ContainsFunc(r.Body, func(l api.Literal) bool { return slices.ContainsFunc(l.Args, isDeep) }):
		return api.ErrDeep
	case !all(r.Args, isExpression), !all(r.Aggs, isAggregateOrNone), !all(r.Body, isLiteral):
		return api.ErrForm
	}
	return api.OK
}

// all tells whether something is true of each in a list.
func all[T any](l []T, is func(T) bool) bool {
	return !slices.ContainsFunc(l, func(x T) bool { return !is(x) })
}

// isDeep tells whether an expression, or a pattern, is too deep, which tree.Expr finds in both.
func isDeep(x api.Expr) bool {
	_, e := tree.Expr(x)
	return e == api.ErrDeep
}

func isExpression(x api.Expr) bool {
	_, e := tree.Expr(x)
	return e == api.OK
}

func isVariable(name string) bool { return tree.Pattern(api.Expr{Kind: api.Var, Name: name}) }

func isAggregateOrNone(s string) bool {
	switch s {
	case "", "count", "sum", "min", "max":
		return true
	}
	return false
}

func isLiteral(l api.Literal) bool {
	switch l.Kind {
	case api.Atom, api.Not:
		return all(l.Args, tree.Pattern)
	case api.Cond:
		return len(l.Args) == 1 && isExpression(l.Args[0])
	case api.Bind:
		return len(l.Args) == 1 && isExpression(l.Args[0]) && isVariable(l.Rel)
	}
	return false
}
