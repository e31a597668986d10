package tree

import (
	"slices"

	"corollary/api"
)

// maxNesting is how deep what is given may be nested (DOC.md, Limits).
const maxNesting = 1 << 16

// What is directly within a type, an expression, a value.
func typeParts(t api.Type) []api.Type    { return t.Args }
func exprParts(e api.Expr) []api.Expr    { return e.Args }
func valueParts(v api.Value) []api.Value { return v.L }

// deeper tells whether something is nested in more levels. It looks no further down than these.
func deeper[T any](x T, levels int, parts func(T) []T) bool {
	return levels == 0 || slices.ContainsFunc(parts(x), func(part T) bool { return deeper(part, levels-1, parts) })
}

func deepType(t api.Type) bool { return deeper(t, api.MaxDepth, typeParts) }

func deepExpr(e api.Expr) bool { return deeper(e, api.MaxDepth, exprParts) }

// deepModule tells whether a type, a pattern or an expression in a module is too deep.
func deepModule(m api.Module) bool {
	return slices.ContainsFunc(m.Types, deepTypeDef) || slices.ContainsFunc(m.Rels, deepRelDef) ||
		slices.ContainsFunc(m.Rules, deepRule) || slices.ContainsFunc(m.Nevers, deepNever)
}

func deepTypeDef(d api.TypeDef) bool { return slices.ContainsFunc(d.Cons, deepConsDef) }

func deepConsDef(d api.ConsDef) bool { return slices.ContainsFunc(d.Fields, deepField) }

func deepRelDef(d api.RelDef) bool { return slices.ContainsFunc(d.Fields, deepField) }

func deepField(d api.FieldDef) bool { return deepType(d.Type) }

func deepRule(r api.Rule) bool {
	return slices.ContainsFunc(r.Args, deepExpr) || slices.ContainsFunc(r.Body, deepLiteral)
}

func deepNever(n api.Never) bool { return slices.ContainsFunc(n.Body, deepLiteral) }

func deepLiteral(l api.Literal) bool { return slices.ContainsFunc(l.Args, deepExpr) }

// fullModule tells whether a module, or a body in it, has more parts than it may have.
func fullModule(m api.Module) bool {
	return len(m.Imports) > api.MaxModules || len(m.Types) > api.MaxTypes || len(m.Rels) > api.MaxRels ||
		len(m.Rules) > api.MaxRules || slices.ContainsFunc(m.Rules, fullRule) ||
		len(m.Nevers) > api.MaxRules || slices.ContainsFunc(m.Nevers, fullNever)
}

func fullRule(r api.Rule) bool { return len(r.Body) > api.MaxBody }

func fullNever(n api.Never) bool { return len(n.Body) > api.MaxBody }
