package parse

import (
	"corollary/api"
	"corollary/lex"
)

// argument is one of a head, with its aggregate, if it has one.
type argument struct {
	aggregate string
	expr      api.Expr
}

func (p *parser) rule() api.Rule {
	r := api.Rule{Pos: p.pos(), Rel: p.longName()}
	for _, a := range fields(p, anyNumber, p.wholeArgument) {
		r.Args = append(r.Args, a.expr)
		r.Aggs = append(r.Aggs, a.aggregate)
	}
	if p.mark() == ":-" {
		r.Body = p.body()
	}
	p.require(".")
	return r
}

func (p *parser) argument() argument {
	switch p.mark() {
	case "count", "sum", "min", "max":
		a := argument{aggregate: p.next().Text}
		p.require("(")
		a.expr = p.closedExpr()
		return a
	}
	return argument{expr: p.expr()}
}

// closedExpr reads an expression and the bracket behind it.
func (p *parser) closedExpr() api.Expr {
	e := p.expr()
	p.require(")")
	return e
}

func (p *parser) never() api.Never {
	begin := p.next().Pos
	n := api.Never{Pos: begin, Name: p.plainName(), Body: p.body()}
	p.require(".")
	return n
}

func (p *parser) body() []api.Literal {
	p.require(":-")
	return separated(p, ",", api.MaxBody, api.ErrFull, p.literal)
}

func (p *parser) literal() api.Literal {
	begin := p.pos()
	switch {
	case isLongName(p.first()):
		return p.atom(api.Atom, begin)
	case p.mark() == "not" && isLongName(p.second()):
		p.next()
		return p.atom(api.Not, begin)
	case p.first().Kind == lex.Variable && markOf(p.second()) == "=":
		name := p.next().Text
		p.require("=")
		return api.Literal{Kind: api.Bind, Pos: begin, Rel: name, Args: []api.Expr{p.wholeExpr()}}
	}
	return api.Literal{Kind: api.Cond, Pos: begin, Args: []api.Expr{p.wholeExpr()}}
}

// atom reads one, negated or not, from its relation on.
func (p *parser) atom(kind uint8, begin api.Pos) api.Literal {
	l := api.Literal{Kind: kind, Pos: begin, Rel: p.longName()}
	l.Args = fields(p, anyNumber, p.wholePattern)
	return l
}
