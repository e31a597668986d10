package parse

import "corollary/api"

// another reads one more of a list, as it is passed how, unless there are as many as may be.
func another[T any](p *parser, l []T, most int, excess api.Errno, read func() T) []T {
	if len(l) == most && !p.atEnd() { // at the end there is none too many, but one too few
		throw(p.pos(), excess)
	}
	return append(l, read())
}

// separated reads one, and others as long as they are separated by a mark.
func separated[T any](p *parser, mark string, most int, excess api.Errno, read func() T) []T {
	l := []T{read()}
	for p.accept(mark) {
		l = another(p, l, most, excess, read)
	}
	return l
}

// How many may be in brackets.
func anyNumber(int) bool { return true }
func notNone(n int) bool { return n != 0 }
func notOne(n int) bool  { return n != 1 }

// closed reads a list and the bracket behind it, which is refused if there may not be so many.
func closed[T any](p *parser, may func(int) bool, most int, read func() T) []T {
	var l []T
	if p.mark() != ")" {
		l = separated(p, ",", most, api.ErrForm, read)
	}
	if !may(len(l)) {
		p.refuse()
	}
	p.require(")")
	return l
}

// within reads what a mark opens, until it ends.
func within[T any](p *parser, mark string, read func() T) T {
	if p.mark() == mark && p.open == api.MaxDepth {
		throw(p.pos(), api.ErrDeep)
	}
	p.require(mark)
	p.open++
	x := read()
	p.open--
	return x
}

// fields reads a list in brackets that open nothing: those of a declaration, a head or an atom.
func fields[T any](p *parser, may func(int) bool, read func() T) []T {
	p.require("(")
	return closed(p, may, api.MaxFields, read)
}

// arguments reads a list in brackets behind a name, if they are there.
func arguments[T any](p *parser, read func() T) []T {
	if p.mark() != "(" {
		return nil
	}
	return within(p, "(", func() []T { return closed(p, notNone, api.MaxFields, read) })
}

// parts reads those of a tuple, in brackets.
func parts[T any](p *parser, may func(int) bool, read func() T) []T {
	return within(p, "(", func() []T { return closed(p, may, api.MaxItems, read) })
}
