package parse

import (
	"corollary/api"
	"corollary/lex"
)

// parser reads the tokens of a text from the left.
type parser struct {
	rest []lex.Token // what is not read yet: at least the end
	open int         // how many are open
}

// newParser lays the end of the text behind the tokens, as one of no kind, which is allowed nowhere.
func newParser(tokens []lex.Token) *parser {
	end := lex.Token{Pos: api.Pos{Line: 1, Col: 1}}
	if len(tokens) > 0 {
		end.Pos = tokens[len(tokens)-1].Pos
	}
	return &parser{rest: append(tokens, end)}
}

// first is the token that comes next. There is a second one behind it, unless it is the end.
func (p *parser) first() lex.Token { return p.rest[0] }

func (p *parser) second() lex.Token { return p.rest[1] }

// pos is where an error is at the token that comes next.
func (p *parser) pos() api.Pos { return p.first().Pos }

func (p *parser) atEnd() bool { return len(p.rest) == 1 }

// next reads a token, which is not the end.
func (p *parser) next() lex.Token {
	t := p.first()
	p.rest = p.rest[1:]
	return t
}

// refuse ends all reading, as the token that comes next is not allowed.
func (p *parser) refuse() { throw(p.pos(), api.ErrForm) }

// markOf is the text of a Word or a Sign, and none for all others, which may have the same one.
func markOf(t lex.Token) string {
	if t.Kind == lex.Word || t.Kind == lex.Sign {
		return t.Text
	}
	return ""
}

func (p *parser) mark() string { return markOf(p.first()) }

// accept reads a Word or a Sign, if it comes next.
func (p *parser) accept(mark string) bool {
	if p.mark() != mark {
		return false
	}
	p.next()
	return true
}

func (p *parser) require(mark string) {
	if !p.accept(mark) {
		p.refuse()
	}
}

func (p *parser) requireEnd() {
	if !p.atEnd() {
		p.refuse()
	}
}
