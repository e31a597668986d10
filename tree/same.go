package tree

import (
	"slices"

	"corollary/api"
)

// sameTree tells whether two are alike, and their parts the same, all the way down. What is nested in more levels is not: it may contain itself.
func sameTree[T any](a, b T, levels int, alike func(a, b T) bool, parts func(T) []T) bool {
	return levels > 0 && alike(a, b) && slices.EqualFunc(parts(a), parts(b), func(a, b T) bool {
		return sameTree(a, b, levels-1, alike, parts)
	})
}

func sameType(a, b api.Type) bool {
	return sameTree(a, b, maxNesting, func(a, b api.Type) bool { return a.Name == b.Name }, typeParts)
}

func sameExpr(a, b api.Expr) bool {
	return sameTree(a, b, maxNesting, func(a, b api.Expr) bool {
		return a.Kind == b.Kind && a.Name == b.Name && sameValue(a.Value, b.Value)
	}, exprParts)
}

func sameValue(a, b api.Value) bool {
	return sameTree(a, b, maxNesting, func(a, b api.Value) bool {
		return a.Kind == b.Kind && a.N == b.N && a.S == b.S
	}, valueParts)
}

func sameModule(a, b api.Module) bool {
	return a.Name == b.Name &&
		slices.EqualFunc(a.Imports, b.Imports, sameImport) &&
		slices.EqualFunc(a.Types, b.Types, sameTypeDef) &&
		slices.EqualFunc(a.Rels, b.Rels, sameRelDef) &&
		slices.EqualFunc(a.Rules, b.Rules, sameRule) &&
		slices.EqualFunc(a.Nevers, b.Nevers, sameNever)
}

func sameImport(a, b api.Import) bool { return a.Name == b.Name }

func sameTypeDef(a, b api.TypeDef) bool {
	return a.Pub == b.Pub && a.Name == b.Name && slices.Equal(a.Params, b.Params) && slices.EqualFunc(a.Cons, b.Cons, sameConsDef)
}

func sameConsDef(a, b api.ConsDef) bool {
	return a.Name == b.Name && slices.EqualFunc(a.Fields, b.Fields, sameField)
}

func sameRelDef(a, b api.RelDef) bool {
	return a.Pub == b.Pub && a.Input == b.Input && a.Name == b.Name && slices.EqualFunc(a.Fields, b.Fields, sameField)
}

func sameField(a, b api.FieldDef) bool { return a.Name == b.Name && sameType(a.Type, b.Type) }

func sameRule(a, b api.Rule) bool {
	return a.Rel == b.Rel && slices.EqualFunc(a.Args, b.Args, sameExpr) && slices.Equal(a.Aggs, b.Aggs) && slices.EqualFunc(a.Body, b.Body, sameLiteral)
}

func sameNever(a, b api.Never) bool {
	return a.Name == b.Name && slices.EqualFunc(a.Body, b.Body, sameLiteral)
}

func sameLiteral(a, b api.Literal) bool {
	return a.Kind == b.Kind && a.Rel == b.Rel && slices.EqualFunc(a.Args, b.Args, sameExpr)
}
