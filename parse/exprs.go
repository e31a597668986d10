package parse

import (
	"corollary/api"
	"corollary/lex"
)

// How operators bind: those of a later level bind tighter.
const (
	disjunction = 1 + iota
	conjunction
	comparison
	concatenation
	addition
	multiplication
	operand
)

// levelOf is the level of a binary operator.
func levelOf(mark string) int {
	switch mark {
	case "or":
		return disjunction
	case "and":
		return conjunction
	case "==", "!=", "<", "<=", ">", ">=":
		return comparison
	case "++":
		return concatenation
	case "+", "-":
		return addition
	case "*", "/", "%":
		return multiplication
	}
	return 0
}

func call(name string, pos api.Pos, args ...api.Expr) api.Expr {
	return api.Expr{Kind: api.Call, Pos: pos, Name: name, Args: args}
}

func (p *parser) expr() api.Expr {
	if p.mark() == "if" {
		return p.choice()
	}
	return p.operators(disjunction)
}

func (p *parser) choice() api.Expr {
	begin := p.pos()
	return api.Expr{Kind: api.If, Pos: begin, Args: within(p, "if", p.branches)}
}

// branches reads the condition of a choice, and what it chooses between.
func (p *parser) branches() []api.Expr {
	condition := p.expr()
	p.require("then")
	then := p.expr()
	p.require("else")
	return []api.Expr{condition, then, p.expr()}
}

// operators reads operands, with operators between them that bind as those of a level do, or tighter.
func (p *parser) operators(level int) api.Expr {
	switch {
	case level == operand:
		return p.one()
	case level == comparison && p.mark() == "not":
		return p.negation()
	}
	left := p.operators(level + 1)
	for levelOf(p.mark()) == level {
		operator := p.next()
		left = call(operator.Text, operator.Pos, left, p.operators(level+1))
		if level == comparison {
			break // only one
		}
	}
	return left
}

// negation reads a not and what it negates: another one, or what binds tighter.
func (p *parser) negation() api.Expr {
	begin := p.pos()
	return call("not", begin, within(p, "not", func() api.Expr { return p.operators(comparison) }))
}

// one reads an operand that no binary operator is in.
func (p *parser) one() api.Expr {
	if p.mark() == "-" && !p.atValue() {
		begin := p.pos()
		return call("neg", begin, within(p, "-", p.one))
	}
	return p.post()
}

// post reads an operand, with the fields that are taken of it.
func (p *parser) post() api.Expr {
	e := p.least()
	for p.first().Kind == lex.Field {
		point := p.pos()
		e = api.Expr{Kind: api.Field, Pos: point, Name: p.fieldName(), Args: []api.Expr{e}}
	}
	return e
}

func (p *parser) least() api.Expr {
	switch {
	case p.atValue():
		return p.value()
	case p.first().Kind == lex.Variable:
		return p.variable()
	case p.mark() == "(":
		return p.brackets()
	case isFunction(p.first()):
		f := p.next()
		return call(f.Text, f.Pos, within(p, "(", p.closedExpr))
	}
	return p.constructor(p.expr)
}

// brackets reads a tuple, or a single expression, which is the same in brackets and without.
func (p *parser) brackets() api.Expr {
	begin := p.pos()
	l := parts(p, anyNumber, p.expr)
	if len(l) == 1 {
		return l[0]
	}
	return api.Expr{Kind: api.Tup, Pos: begin, Args: l}
}
