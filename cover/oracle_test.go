package cover_test

import (
	"slices"
	"strconv"

	"corollary/api"
	"corollary/cover"
	"corollary/tree"
)

// declaredIn is the declared type of a name; it has none, if there is none.
func declaredIn(m api.Module, name string) api.TypeDef {
	for _, d := range m.Types {
		if d.Name == name {
			return d
		}
	}
	return api.TypeDef{}
}

// fieldsOf are the types of a constructor's fields, where it constructs a type.
func fieldsOf(d api.TypeDef, c api.ConsDef, x api.Type) []api.Type {
	var l []api.Type
	for _, f := range c.Fields {
		l = append(l, putIn(f.Type, d.Params, x.Args))
	}
	return l
}

func putIn(x api.Type, params []string, args []api.Type) api.Type {
	if i := slices.Index(params, x.Name); i >= 0 && isParameter(x.Name) {
		return args[i]
	}
	result := typ(x.Name)
	for _, arg := range x.Args {
		result.Args = append(result.Args, putIn(arg, params, args))
	}
	return result
}

// matched is an independent reading of what it is to match: all that a pattern requires is collected, and tried against the
// variables one by one.
func matched(p api.Expr, v api.Value, l []cover.Bound) ([]cover.Bound, bool) {
	if !tree.Pattern(p) || !isValid(v) {
		return nil, false
	}
	l = slices.Clone(l)
	var try func(p api.Expr, v api.Value) bool
	try = func(p api.Expr, v api.Value) bool {
		switch p.Kind {
		case api.Any:
			return true
		case api.Lit:
			return sameValue(p.Value, v)
		case api.Var:
			for _, b := range l {
				if b.Name == p.Name {
					return sameValue(b.Value, v)
				}
			}
			l = append(l, bound(p.Name, v))
			return true
		case api.Tup:
			if v.Kind != api.Tuple {
				return false
			}
		case api.Make:
			if v.Kind != api.Cons || v.S != p.Name {
				return false
			}
		}
		if len(p.Args) != len(v.L) {
			return false
		}
		for i, arg := range p.Args {
			if !try(arg, v.L[i]) {
				return false
			}
		}
		return true
	}
	if !try(p, v) {
		return nil, false
	}
	return l, true
}

// rowMatches tells whether patterns in which no variable occurs twice match values.
func rowMatches(l []api.Expr, values []api.Value) bool {
	for i, p := range l {
		if !simplyMatches(p, values[i]) {
			return false
		}
	}
	return true
}

// simplyMatches tells whether a pattern matches a value that is valid, but for its depth and for its names.
func simplyMatches(p api.Expr, v api.Value) bool {
	switch p.Kind {
	case api.Any, api.Var:
		return true
	case api.Lit:
		return sameValue(p.Value, v)
	}
	return v.S == p.Name && len(v.L) == len(p.Args) && rowMatches(p.Args, v.L)
}

// fitting is an independent reading of which patterns have which types.
func fitting(m api.Module, p api.Expr, x api.Type) bool {
	switch p.Kind {
	case api.Any, api.Var:
		return true
	case api.Lit:
		return x.Name == []string{"", "bool", "int", "big", "text"}[p.Value.Kind]
	}
	args := x.Args
	if p.Kind == api.Make {
		d := declaredIn(m, x.Name)
		i := slices.IndexFunc(d.Cons, func(c api.ConsDef) bool { return c.Name == p.Name })
		if i < 0 {
			return false
		}
		args = fieldsOf(d, d.Cons[i], x)
	} else if x.Name != "tuple" {
		return false
	}
	if len(args) != len(p.Args) {
		return false
	}
	for i, arg := range p.Args {
		if !fitting(m, arg, args[i]) {
			return false
		}
	}
	return true
}

// world is a module, and what has been found of the values of its types.
type world struct {
	api.Module
	found map[string]leastValue
	isCut bool // there were too many cases
}

type leastValue struct {
	v  api.Value
	is bool
}

func newWorld(m api.Module) *world { return &world{m, map[string]leastValue{}, false} }

// least is a value of a type of at most so many levels, if there is one.
func (w *world) least(x api.Type, levels int) (api.Value, bool) {
	if levels == 0 {
		return api.Value{}, false
	}
	key := strconv.Itoa(levels) + shown(x)
	known, there := w.found[key]
	if !there {
		known.v, known.is = w.sought(x, levels)
		w.found[key] = known
	}
	return known.v, known.is
}

func (w *world) sought(x api.Type, levels int) (api.Value, bool) {
	switch x.Name {
	case "bool":
		return boolean(0), true
	case "int":
		return num(0), true
	case "big":
		return long("0"), true
	case "text":
		return text("0"), true
	case "tuple":
		l, ok := w.leastOfEach(x.Args, levels-1)
		return tuple(l...), ok
	}
	d := declaredIn(w.Module, x.Name)
	for _, c := range d.Cons {
		if l, ok := w.leastOfEach(fieldsOf(d, c, x), levels-1); ok {
			return cons(c.Name, l...), true
		}
	}
	return api.Value{}, false
}

func (w *world) leastOfEach(xs []api.Type, levels int) ([]api.Value, bool) {
	var l []api.Value
	for _, x := range xs {
		v, ok := w.least(x, levels)
		if !ok {
			return nil, false
		}
		l = append(l, v)
	}
	return l, true
}

// mostCases is how many rows of values are worth the while.
const mostCases = 1000

// cases are rows of values of types, such that each other row of values is matched by the same ones of some rows of patterns as one of
// these: only what some pattern looks at is different in them. If there are too many, some are left out.
func (w *world) cases(xs []api.Type, rows [][]api.Expr) [][]api.Value {
	all := [][]api.Value{nil}
	for i, x := range xs {
		var patterns []api.Expr
		for _, l := range rows {
			patterns = append(patterns, l[i])
		}
		var longer [][]api.Value
		for _, l := range all {
			for _, v := range w.casesOf(x, patterns) {
				longer = append(longer, append(l[:len(l):len(l)], v))
			}
			if len(longer) > mostCases {
				w.isCut = true
				break
			}
		}
		all = longer
	}
	return all
}

func (w *world) casesOf(x api.Type, patterns []api.Expr) []api.Value {
	patterns = slices.DeleteFunc(slices.Clone(patterns), func(p api.Expr) bool { return p.Kind == api.Any || p.Kind == api.Var })
	if len(patterns) == 0 {
		if v, ok := w.least(x, 12); ok {
			return []api.Value{v}
		}
		return nil
	}
	switch x.Name {
	case "bool":
		return []api.Value{boolean(0), boolean(1)}
	case "int":
		return []api.Value{num(0), num(1), num(2)}
	case "big":
		return []api.Value{long("0"), long("1"), long("2")}
	case "text":
		return []api.Value{text("0"), text("1"), text("2")}
	case "tuple":
		return w.formed(x.Args, patterns, func(l []api.Value) api.Value { return tuple(l...) })
	}
	var all []api.Value
	d := declaredIn(w.Module, x.Name)
	for _, c := range d.Cons {
		same := slices.DeleteFunc(slices.Clone(patterns), func(p api.Expr) bool { return p.Name != c.Name })
		all = append(all, w.formed(fieldsOf(d, c, x), same, func(l []api.Value) api.Value { return cons(c.Name, l...) })...)
	}
	return all
}

func (w *world) formed(args []api.Type, patterns []api.Expr, form func([]api.Value) api.Value) []api.Value {
	var rows [][]api.Expr
	for _, p := range patterns {
		rows = append(rows, p.Args)
	}
	var all []api.Value
	for _, l := range w.cases(args, rows) {
		all = append(all, form(l))
	}
	return all
}

// values are all values of a type of up to so many levels, where there are three literals at most.
func (w *world) values(x api.Type, levels int) []api.Value {
	if levels == 0 {
		return nil
	}
	switch x.Name {
	case "bool", "int", "big", "text":
		return w.casesOf(x, []api.Expr{tup()})
	case "tuple":
		return eachForm(w.rowsOfValues(x.Args, levels-1), func(l []api.Value) api.Value { return tuple(l...) })
	}
	var all []api.Value
	d := declaredIn(w.Module, x.Name)
	for _, c := range d.Cons {
		all = append(all, eachForm(w.rowsOfValues(fieldsOf(d, c, x), levels-1), func(l []api.Value) api.Value { return cons(c.Name, l...) })...)
	}
	return all
}

func eachForm(rows [][]api.Value, form func([]api.Value) api.Value) []api.Value {
	var all []api.Value
	for _, l := range rows {
		all = append(all, form(l))
	}
	return all
}

func (w *world) rowsOfValues(xs []api.Type, levels int) [][]api.Value {
	all := [][]api.Value{nil}
	for _, x := range xs {
		var longer [][]api.Value
		for _, l := range all {
			for _, v := range w.values(x, levels) {
				longer = append(longer, append(l[:len(l):len(l)], v))
			}
		}
		all = longer
	}
	return all
}

// judged are whether rows match all of some rows of values, and which ones match none that no earlier one does.
func judged(values [][]api.Value, rows [][]api.Expr) (bool, []int) {
	missed := false
	useful := make([]bool, len(rows))
	for _, l := range values {
		i := slices.IndexFunc(rows, func(r []api.Expr) bool { return rowMatches(r, l) })
		if i < 0 {
			missed = true
		} else {
			useful[i] = true
		}
	}
	var redundant []int
	for i := range rows {
		if !useful[i] {
			redundant = append(redundant, i)
		}
	}
	return !missed, redundant
}
