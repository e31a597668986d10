package unify

import (
	"maps"
	"slices"
	"strconv"
	"strings"

	"corollary/api"
)

// term is a variable, or another type, whose Args are the terms of these numbers.
type term struct {
	name   string
	args   []int
	inside bool // it, or one that leads to it, may be an argument: if not, nothing contains it
}

func (x term) isVar() bool { return strings.HasPrefix(x.name, "'") }

// bindings are the terms that types were made of, and which of them are unified. The terms that are unified lead,
// over one another, to one of them, their root: one that is no variable, if there is one, or else the least variable.
type bindings struct {
	terms []term
	to    []int          // by the number of a term, that of the one to which it leads: its own, if it is a root
	vars  map[string]int // the numbers of variables, by their names
	last  int            // the number in the name of the last new variable
	taken map[int]bool   // the greater ones in the names of variables that were given
}

func (b *bindings) clone() *bindings {
	return &bindings{slices.Clone(b.terms), slices.Clone(b.to), maps.Clone(b.vars), b.last, maps.Clone(b.taken)}
}

// note has the variables in some types not be returned as new ones.
func (b *bindings) note(l []api.Type) {
	for _, name := range Vars(l) {
		if n, _ := strconv.Atoi(name[1:]); n > b.last && newName(n) == name {
			b.taken[n] = true
		}
	}
}

func newName(n int) string { return "'" + strconv.Itoa(n) }

func (b *bindings) newVar() api.Type {
	for b.last++; b.taken[b.last]; b.last++ {
		delete(b.taken, b.last)
	}
	return api.Type{Name: newName(b.last)}
}

// drop removes the terms from a number on, to which no other leads.
func (b *bindings) drop(size int) {
	for _, x := range b.terms[size:] {
		if x.isVar() {
			delete(b.vars, x.name)
		}
	}
	b.terms, b.to = b.terms[:size], b.to[:size]
}

// enter is the number of a type, whose parts become terms, except for variables that are some already.
func (b *bindings) enter(x api.Type) int {
	if n, known := b.vars[x.Name]; known {
		return n
	}
	added := term{name: x.Name}
	for _, arg := range x.Args {
		n := b.enter(arg)
		b.terms[b.root(n)].inside = true
		added.args = append(added.args, n)
	}
	n := len(b.terms)
	b.terms, b.to = append(b.terms, added), append(b.to, n)
	if added.isVar() {
		b.vars[x.Name] = n
	}
	return n
}

// root is the term to which one leads. Whatever is on the way there leads further on from now on.
func (b *bindings) root(n int) int {
	for b.to[n] != n {
		b.to[n] = b.to[b.to[n]]
		n = b.to[n]
	}
	return n
}

// lead has a root lead to another one.
func (b *bindings) lead(from, to int) {
	b.to[from] = to
	b.terms[to].inside = b.terms[to].inside || b.terms[from].inside
}
