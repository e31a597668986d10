package parse

import (
	"corollary/api"
	"corollary/lex"
)

func (p *parser) module() api.Module {
	p.require("module")
	m := api.Module{Name: p.plainName()}
	for p.mark() == "import" {
		m.Imports = another(p, m.Imports, api.MaxModules, api.ErrFull, p.importOf)
	}
	for !p.atEnd() {
		p.declaration(&m)
	}
	return m
}

// declaration reads a type, a relation, a rule or a never. As soon as it is clear which, it may be one too many.
func (p *parser) declaration(m *api.Module) {
	switch mark := p.markOfDeclaration(); {
	case mark == "type":
		m.Types = another(p, m.Types, api.MaxTypes, api.ErrFull, p.typeDef)
	case mark == "rel" || mark == "input":
		m.Rels = another(p, m.Rels, api.MaxRels, api.ErrFull, p.relDef)
	case p.mark() == "never":
		m.Nevers = another(p, m.Nevers, api.MaxRules, api.ErrFull, p.never)
	case isLongName(p.first()):
		m.Rules = another(p, m.Rules, api.MaxRules, api.ErrFull, p.rule)
	default:
		p.accept("pub")
		p.refuse()
	}
}

// markOfDeclaration is the mark that comes next, behind a pub if there is one.
func (p *parser) markOfDeclaration() string {
	if p.mark() == "pub" {
		return markOf(p.second())
	}
	return p.mark()
}

func (p *parser) importOf() api.Import {
	begin := p.next().Pos
	return api.Import{Pos: begin, Name: p.plainName()}
}

func (p *parser) typeDef() api.TypeDef {
	d := api.TypeDef{Pos: p.pos(), Pub: p.accept("pub")}
	p.require("type")
	d.Name = p.plainName()
	if p.mark() == "(" {
		d.Params = fields(p, notNone, p.parameter)
	}
	p.require("=")
	d.Cons = separated(p, "|", api.MaxCons, api.ErrForm, p.consDef)
	return d
}

// parameter reads one of a type, where it is declared or stands for a type.
func (p *parser) parameter() string {
	p.require("'")
	return "'" + p.plainName()
}

func (p *parser) consDef() api.ConsDef {
	d := api.ConsDef{Name: p.plainName()}
	if p.mark() == "(" {
		d.Fields = fields(p, notNone, p.part)
	}
	return d
}

// part reads a field of a constructor, which may have no name.
func (p *parser) part() api.FieldDef {
	if p.first().Kind == lex.Name && markOf(p.second()) == ":" {
		return p.field()
	}
	return api.FieldDef{Type: p.wholeType()}
}

func (p *parser) field() api.FieldDef {
	d := api.FieldDef{Name: p.plainName()}
	p.require(":")
	d.Type = p.wholeType()
	return d
}

func (p *parser) relDef() api.RelDef {
	d := api.RelDef{Pos: p.pos(), Pub: p.accept("pub")}
	d.Input = p.next().Text == "input"
	d.Name = p.plainName()
	d.Fields = fields(p, anyNumber, p.field)
	return d
}

func (p *parser) typeOf() api.Type {
	switch {
	case p.mark() == "'":
		return api.Type{Name: p.parameter()}
	case p.mark() == "(":
		return api.Type{Name: "tuple", Args: parts(p, notOne, p.typeOf)}
	case isBasicType(p.first()):
		return api.Type{Name: p.next().Text}
	}
	return api.Type{Name: p.longName(), Args: arguments(p, p.typeOf)}
}
