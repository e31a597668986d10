package lex

import (
	"strings"

	"corollary/api"
)

// place is where a text is being read: a position, and the rest of the text from there on.
type place struct {
	pos  api.Pos
	rest string
}

func beginning(text string) place { return place{api.Pos{Line: 1, Col: 1}, text} }

// move goes on by so many bytes.
func (p *place) move(size int) {
	passed := p.rest[:size]
	p.rest = p.rest[size:]
	if end := strings.LastIndexByte(passed, '\n'); end >= 0 {
		p.pos.Line += strings.Count(passed, "\n")
		p.pos.Col = 1
		passed = passed[end+1:]
	}
	p.pos.Col += len(passed)
}

// skipBetween goes on to the next token, or to the end.
func (p *place) skipBetween() {
	rest := p.rest
	for {
		rest = strings.TrimLeft(rest, " \t\n\r")
		if !strings.HasPrefix(rest, "#") {
			break
		}
		_, rest, _ = strings.Cut(rest, "\n")
	}
	p.move(len(p.rest) - len(rest))
}
