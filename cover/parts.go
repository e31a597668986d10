package cover

import (
	"corollary/api"
	"corollary/decl"
	"corollary/value"
)

// anyForm is the form of a pattern that matches whatever is in its place.
const anyForm = ""

// part is a pattern of a type of which there are values that it matches.
type part struct {
	column int    // what it is matched against: the same number in all rows
	form   string // of the values that it matches: a constructor, a tuple, a literal; or anyForm
	forms  int    // in how many forms there are values of the type
	args   []part
}

// step leads from a column to that of an argument, if what is in the column is taken apart.
type step struct{ from, arg int }

// maker makes parts of patterns. The columns of all that it makes belong together.
type maker struct {
	table   *decl.Table
	types   *census
	columns map[step]int
}

func newMaker(t *decl.Table) *maker { return &maker{t, newCensus(t), map[step]int{}} }

// row is a row of patterns, as one pattern, for some types. It tells false if it matches no row of values.
func (m *maker) row(p api.Expr, xs []api.Type) (*part, bool) {
	made, some := m.part(p, tupleOf(xs), 0)
	return &made, some
}

func (m *maker) part(p api.Expr, x api.Type, column int) (part, bool) {
	made := part{column: column, form: formOf(p), forms: m.types.forms(x)}
	types, _ := argTypes(m.table, p, x)
	for i, arg := range p.Args {
		inner, some := m.part(arg, types[i], m.columnOf(step{column, i}))
		if !some {
			return part{}, false
		}
		made.args = append(made.args, inner)
	}
	return made, made.forms != 0
}

func (m *maker) columnOf(s step) int {
	if _, known := m.columns[s]; !known {
		m.columns[s] = len(m.columns) + 1 // 0 is that of whole rows
	}
	return m.columns[s]
}

func formOf(p api.Expr) string {
	switch p.Kind {
	case api.Lit:
		return value.Show(p.Value)
	case api.Tup:
		return "()"
	case api.Make:
		return p.Name
	}
	return anyForm
}
