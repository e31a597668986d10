package cover

import (
	"cmp"
	"slices"
)

// demands are what a row of patterns demands of a row of values, each in another column. It matches all that meets them.
type demands []*part

// adds tells whether a row of patterns matches a row of values that none of the earlier ones matches.
func (p *part) adds(earlier []*part) bool {
	var rows []demands
	for _, other := range earlier {
		if rest, both := other.within(p, nil); both {
			rows = append(rows, rest)
		}
	}
	return isMissed(rows)
}

// within adds what a pattern demands of values that another one matches. It tells false if there are none that both match.
func (p *part) within(other *part, l demands) (demands, bool) {
	switch {
	case other.form == anyForm:
		return p.demanded(l), true
	case p.form != other.form:
		return l, p.form == anyForm
	}
	both := true
	for i := 0; i < len(p.args) && both; i++ {
		l, both = p.args[i].within(&other.args[i], l)
	}
	return l, both
}

// demanded adds what a pattern demands: its form, unless it matches any, or there is no other one.
func (p *part) demanded(l demands) demands {
	if p.form == anyForm || p.forms == 1 {
		return p.argsDemanded(l)
	}
	return append(l, p)
}

func (p *part) argsDemanded(l demands) demands {
	for i := range p.args {
		l = p.args[i].demanded(l)
	}
	return l
}

// isMissed tells whether there is a row of values that meets none of some rows of demands. There are values in each column.
func isMissed(rows []demands) bool {
	if len(rows) == 0 {
		return true
	}
	shortest := slices.MinFunc(rows, func(a, b demands) int { return cmp.Compare(len(a), len(b)) })
	if len(shortest) == 0 {
		return false
	}
	column, forms := shortest[0].column, shortest[0].forms
	enter := func(form string) bool {
		var rest []demands
		for _, l := range rows {
			if inner, may := l.entered(column, form); may {
				rest = append(rest, inner)
			}
		}
		return isMissed(rest)
	}
	seen := formsIn(column, rows)
	if len(seen) == forms {
		return slices.ContainsFunc(seen, enter)
	}
	return enter(anyForm) // what remains for a form that is not demanded remains for the others, too
}

// formsIn are the forms that rows demand in a column, each once.
func formsIn(column int, rows []demands) []string {
	var forms []string
	seen := map[string]bool{}
	for _, l := range rows {
		if i := l.index(column); i >= 0 && !seen[l[i].form] {
			seen[l[i].form] = true
			forms = append(forms, l[i].form)
		}
	}
	return forms
}

// index is where a demand for a column is, or -1.
func (l demands) index(column int) int {
	return slices.IndexFunc(l, func(p *part) bool { return p.column == column })
}

// entered is what is still demanded if what is in a column has a form; of anyForm, one that nothing demands. It tells false if
// another form is demanded there.
func (l demands) entered(column int, form string) (demands, bool) {
	i := l.index(column)
	if i < 0 {
		return l, true
	}
	if l[i].form != form {
		return nil, false
	}
	return l[i].argsDemanded(slices.Concat(l[:i], l[i+1:])), true
}
