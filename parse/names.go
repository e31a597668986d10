package parse

import (
	"strings"

	"corollary/api"
	"corollary/lex"
	"corollary/tree"
)

// isLong tells whether the text of a Name or a Field is a long name: layer 6 knows which are reserved.
func isLong(s string) bool { return tree.Pattern(api.Expr{Kind: api.Make, Name: s}) }

// isPlain tells whether it is a long name without a point.
func isPlain(s string) bool { return isLong(s) && !strings.Contains(s, ".") }

func isLongName(t lex.Token) bool { return t.Kind == lex.Name && isLong(t.Text) }

// isBasicType tells whether a token is a type that no module declares.
func isBasicType(t lex.Token) bool {
	switch t.Text {
	case "bool", "int", "big", "text":
		return t.Kind == lex.Name
	}
	return false
}

// isFunction tells whether a token is a function, which is written before its argument.
func isFunction(t lex.Token) bool {
	switch t.Text {
	case "neg", "len", "big", "int":
		return t.Kind == lex.Name
	}
	return false
}

// named reads a token of a kind whose text is as it must be, and returns that.
func (p *parser) named(kind uint8, is func(string) bool) string {
	if t := p.first(); t.Kind != kind || !is(t.Text) {
		p.refuse()
	}
	return p.next().Text
}

func (p *parser) plainName() string { return p.named(lex.Name, isPlain) }

func (p *parser) longName() string { return p.named(lex.Name, isLong) }

func (p *parser) fieldName() string { return p.named(lex.Field, isPlain) }
