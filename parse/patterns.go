package parse

import (
	"corollary/api"
	"corollary/big"
	"corollary/lex"
)

func (p *parser) pattern() api.Expr {
	begin := p.pos()
	switch {
	case p.atValue():
		return p.value()
	case p.first().Kind == lex.Variable:
		return p.variable()
	case p.first().Kind == lex.Any:
		p.next()
		return api.Expr{Kind: api.Any, Pos: begin}
	case p.mark() == "(":
		return api.Expr{Kind: api.Tup, Pos: begin, Args: parts(p, notOne, p.pattern)}
	}
	return p.constructor(p.pattern)
}

func (p *parser) variable() api.Expr {
	t := p.next()
	return api.Expr{Kind: api.Var, Pos: t.Pos, Name: t.Text}
}

// constructor reads one, with its arguments, each as it is passed how.
func (p *parser) constructor(read func() api.Expr) api.Expr {
	begin := p.pos()
	return api.Expr{Kind: api.Make, Pos: begin, Name: p.longName(), Args: arguments(p, read)}
}

// atValue tells whether a value comes next: a - is one's beginning only before a number.
func (p *parser) atValue() bool {
	switch p.mark() {
	case "true", "false":
		return true
	case "-":
		return isNumber(p.second())
	}
	return isNumber(p.first()) || p.first().Kind == lex.Text
}

func isNumber(t lex.Token) bool { return t.Kind == lex.Int || t.Kind == lex.Big }

func (p *parser) value() api.Expr {
	e := api.Expr{Kind: api.Lit, Pos: p.pos()}
	switch {
	case p.accept("true"):
		e.Value = api.Value{Kind: api.Bool, N: 1}
	case p.accept("false"):
		e.Value = api.Value{Kind: api.Bool}
	case p.first().Kind == lex.Text:
		e.Value = api.Value{Kind: api.Text, S: p.next().Text}
	default:
		e.Value = p.number()
	}
	return e
}

func (p *parser) number() api.Value {
	begin := p.pos()
	negative := p.accept("-")
	t := p.next()
	digits := t.Text
	if negative {
		digits, _ = big.Neg(digits) // not a - before the digits, as -0 is 0
	}
	if t.Kind == lex.Big {
		return api.Value{Kind: api.Big, S: digits}
	}
	n, e := big.Int(digits)
	if e != api.OK {
		throw(begin, e)
	}
	return api.Value{Kind: api.Int, N: n}
}
