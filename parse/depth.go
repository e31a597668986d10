package parse

import "corollary/api"

// whole reads what is no part of another one, which must not be too deep.
func whole[T any](p *parser, read func() T, depth func(T) int) T {
	begin := p.pos()
	x := read()
	if depth(x) > api.MaxDepth {
		throw(begin, api.ErrDeep)
	}
	return x
}

// depthOf is 1, or one more than the greatest of the parts.
func depthOf[T any](x T, parts func(T) []T) int {
	greatest := 0
	for _, part := range parts(x) {
		greatest = max(greatest, depthOf(part, parts))
	}
	return greatest + 1
}

func depthOfType(t api.Type) int {
	return depthOf(t, func(t api.Type) []api.Type { return t.Args })
}

func depthOfExpr(e api.Expr) int {
	return depthOf(e, func(e api.Expr) []api.Expr { return e.Args })
}

func depthOfArgument(a argument) int { return depthOfExpr(a.expr) }

func (p *parser) wholeType() api.Type { return whole(p, p.typeOf, depthOfType) }

func (p *parser) wholePattern() api.Expr { return whole(p, p.pattern, depthOfExpr) }

func (p *parser) wholeArgument() argument { return whole(p, p.argument, depthOfArgument) }

func (p *parser) wholeExpr() api.Expr { return whole(p, p.expr, depthOfExpr) }
