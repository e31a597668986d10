package tree

import (
	"strings"

	"corollary/api"
	"corollary/value"
)

// writer writes what can be printed.
type writer struct {
	strings.Builder
}

// list writes a list, each as it is passed how, with a text between each two.
func list[T any](w *writer, l []T, between string, write func(T)) {
	for i, x := range l {
		if i > 0 {
			w.WriteString(between)
		}
		write(x)
	}
}

func bracketed[T any](w *writer, l []T, between string, write func(T)) {
	w.WriteByte('(')
	list(w, l, between, write)
	w.WriteByte(')')
}

// named writes a name, and a list in brackets, which may be empty.
func named[T any](w *writer, name string, l []T, write func(T)) {
	w.WriteString(name)
	bracketed(w, l, ", ", write)
}

// namedIfAny writes a name, and a list in brackets, unless it is empty.
func namedIfAny[T any](w *writer, name string, l []T, write func(T)) {
	if len(l) == 0 {
		w.WriteString(name)
		return
	}
	named(w, name, l, write)
}

func lines[T any](w *writer, l []T, write func(T)) {
	list(w, l, "", func(x T) {
		write(x)
		w.WriteByte('\n')
	})
}

func (w *writer) module(m api.Module) {
	w.WriteString("module " + m.Name + "\n")
	lines(w, m.Imports, w.importOf)
	lines(w, m.Types, w.typeDef)
	lines(w, m.Rels, w.relDef)
	lines(w, m.Rules, w.rule)
	lines(w, m.Nevers, w.never)
}

func (w *writer) importOf(i api.Import) { w.WriteString("import " + i.Name) }

func (w *writer) pub(is bool) {
	if is {
		w.WriteString("pub ")
	}
}

func (w *writer) typeDef(d api.TypeDef) {
	w.pub(d.Pub)
	namedIfAny(w, "type "+d.Name, d.Params, w.parameter)
	w.WriteString(" = ")
	list(w, d.Cons, " | ", w.consDef)
}

func (w *writer) parameter(s string) { w.WriteString(s) }

func (w *writer) consDef(d api.ConsDef) { namedIfAny(w, d.Name, d.Fields, w.fieldDef) }

func (w *writer) relDef(d api.RelDef) {
	w.pub(d.Pub)
	if d.Input {
		w.WriteString("input ")
	} else {
		w.WriteString("rel ")
	}
	named(w, d.Name, d.Fields, w.fieldDef)
}

func (w *writer) fieldDef(d api.FieldDef) {
	if d.Name != "" {
		w.WriteString(d.Name + ": ")
	}
	w.typeOf(d.Type)
}

func (w *writer) typeOf(t api.Type) {
	if t.Name == "tuple" {
		bracketed(w, t.Args, ", ", w.typeOf)
		return
	}
	namedIfAny(w, t.Name, t.Args, w.typeOf)
}

func (w *writer) rule(r api.Rule) {
	named(w, r.Rel, argumentsOf(r), w.argument)
	if len(r.Body) > 0 {
		w.body(r.Body)
	}
	w.WriteByte('.')
}

func (w *writer) never(n api.Never) {
	w.WriteString("never " + n.Name)
	w.body(n.Body)
	w.WriteByte('.')
}

// argument is one of a head, with its aggregate.
type argument struct {
	aggregate  string
	expression api.Expr
}

func argumentsOf(r api.Rule) []argument {
	l := make([]argument, len(r.Args))
	for i, e := range r.Args {
		l[i] = argument{r.Aggs[i], e}
	}
	return l
}

func (w *writer) argument(a argument) {
	w.WriteString(a.aggregate)
	w.expressionIn(a.aggregate != "", a.expression)
}

func (w *writer) body(l []api.Literal) {
	w.WriteString(" :- ")
	list(w, l, ", ", w.literal)
}

func (w *writer) literal(l api.Literal) {
	switch l.Kind {
	case api.Not:
		w.WriteString("not ")
		fallthrough
	case api.Atom:
		named(w, l.Rel, l.Args, w.expression)
	case api.Cond:
		condition := l.Args[0]
		w.expressionIn(condition.Kind == api.Make, condition) // without brackets it would be an atom
	case api.Bind:
		w.WriteString(l.Rel + " = ")
		w.expression(l.Args[0])
	}
}

// expressionIn writes an expression, in brackets or without.
func (w *writer) expressionIn(brackets bool, e api.Expr) {
	if brackets {
		bracketed(w, []api.Expr{e}, "", w.expression)
		return
	}
	w.expression(e)
}

// expression writes an expression, or a pattern.
func (w *writer) expression(e api.Expr) {
	switch e.Kind {
	case api.Lit:
		w.WriteString(value.Show(e.Value))
	case api.Var:
		w.WriteString(e.Name)
	case api.Any:
		w.WriteByte('_')
	case api.Tup:
		bracketed(w, e.Args, ", ", w.expression)
	case api.Make:
		namedIfAny(w, e.Name, e.Args, w.expression)
	case api.Call:
		w.call(e)
	case api.Field:
		record := e.Args[0]
		w.expressionIn(isBracketed(record), record)
		w.WriteString("." + e.Name)
	case api.If:
		w.choice(e.Args[0], e.Args[1], e.Args[2])
	}
}

// isBracketed tells whether an expression stands in brackets before a point: literals, and what begins with a name, do.
func isBracketed(e api.Expr) bool {
	return e.Kind == api.Lit || e.Kind == api.Make || e.Kind == api.Call && isFunction(e.Name)
}

func (w *writer) call(e api.Expr) {
	switch {
	case isFunction(e.Name):
		named(w, e.Name, e.Args, w.expression)
	case len(e.Args) == 1:
		w.WriteString("(" + e.Name + " ")
		w.expression(e.Args[0])
		w.WriteByte(')')
	default:
		bracketed(w, e.Args, " "+e.Name+" ", w.expression)
	}
}

func (w *writer) choice(condition, then, otherwise api.Expr) {
	w.WriteString("(if ")
	w.expression(condition)
	w.WriteString(" then ")
	w.expression(then)
	w.WriteString(" else ")
	w.expression(otherwise)
	w.WriteByte(')')
}
