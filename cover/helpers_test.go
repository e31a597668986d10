package cover_test

import (
	"reflect"
	"slices"
	"strings"
	"testing"

	"corollary/api"
	"corollary/cover"
	"corollary/decl"
	"corollary/parse"
	"corollary/tree"
	"corollary/value"
)

// declared is what the tables of most tests have. No value has the type void, or a type in whose values one would be needed.
const declared = `module m
type list('a) = nil | cons(head: 'a, tail: list('a))
type color = red | green | blue
type switch = on | off
type opt('a) = none | some('a)
type nat = z | s(nat)
type tree('a) = leaf | node(tree('a), 'a, tree('a))
type pt = pt(x: int, y: text)
type box('a) = box('a)
type alt('b, 'a) = done | step('a, alt('a, 'b))
type ghost('a) = ghost | spook(ghost('a))
type dot = dot
type flip = flip(bool, bool)
type void = void(box(void))
type either('a, 'b) = left('a) | right('b) | neither
type same('a) = same(('a, 'a))
`

func typ(name string, args ...api.Type) api.Type { return api.Type{Name: name, Args: args} }

// types are those of a text, like list(int), tuple(int, bool).
func types(s string) []api.Type {
	if s == "" {
		return nil
	}
	l, rest := readTypes(s)
	if rest != "" {
		panic("not types: " + s)
	}
	return l
}

func readTypes(s string) (l []api.Type, rest string) {
	for {
		s = strings.TrimLeft(s, " ")
		end := strings.IndexAny(s+")", "(),")
		x := typ(s[:end])
		s = s[end:]
		if strings.HasPrefix(s, "(") {
			x.Args, s = readTypes(s[1:])
			s = strings.TrimPrefix(s, ")")
		}
		l = append(l, x)
		if !strings.HasPrefix(s, ",") {
			return l, s
		}
		s = s[1:]
	}
}

// of is the one type of a text.
func of(s string) api.Type {
	l, rest := readTypes(s)
	if len(l) != 1 || rest != "" {
		panic("not one type: " + s)
	}
	return l[0]
}

// shown is the text of types.
func shown(l ...api.Type) string {
	var all []string
	for _, x := range l {
		s := x.Name
		if len(x.Args) > 0 {
			s += "(" + shown(x.Args...) + ")"
		}
		all = append(all, s)
	}
	return strings.Join(all, ", ")
}

func lit(v api.Value) api.Expr                       { return api.Expr{Kind: api.Lit, Value: v} }
func variable(s string) api.Expr                     { return api.Expr{Kind: api.Var, Name: s} }
func anything() api.Expr                             { return api.Expr{Kind: api.Any} }
func tup(l ...api.Expr) api.Expr                     { return api.Expr{Kind: api.Tup, Args: l} }
func mk(name string, l ...api.Expr) api.Expr         { return api.Expr{Kind: api.Make, Name: name, Args: l} }
func boolean(n int64) api.Value                      { return api.Value{Kind: api.Bool, N: n} }
func num(n int64) api.Value                          { return api.Value{Kind: api.Int, N: n} }
func long(s string) api.Value                        { return api.Value{Kind: api.Big, S: s} }
func text(s string) api.Value                        { return api.Value{Kind: api.Text, S: s} }
func tuple(l ...api.Value) api.Value                 { return api.Value{Kind: api.Tuple, L: l} }
func cons(s string, l ...api.Value) api.Value        { return api.Value{Kind: api.Cons, S: s, L: l} }
func times[T any](n int, x T) []T                    { return slices.Repeat([]T{x}, n) }
func row(l ...api.Expr) []api.Expr                   { return l }
func bound(s string, v api.Value) cover.Bound        { return cover.Bound{Name: s, Value: v} }
func repeated(n int, s string) string                { return strings.Join(times(n, s), ", ") }
func field(x api.Type) api.FieldDef                  { return api.FieldDef{Type: x} }
func isParameter(name string) bool                   { return strings.HasPrefix(name, "'") }
func isValid(v api.Value) bool                       { return value.Check(v) == api.OK }
func sameValue(a, b api.Value) bool                  { return value.Cmp(a, b) == 0 }
func without[T any](l []T, i int) []T                { return slices.Delete(slices.Clone(l), i, i+1) }
func with[T any](l []T, i int, more ...T) []T        { return slices.Insert(slices.Clone(l), i, more...) }
func typeDef(s string, l ...api.ConsDef) api.TypeDef { return api.TypeDef{Name: s, Cons: l} }

// pats are the patterns of a text, like X, cons(1, _).
func pats(s string) []api.Expr {
	m, p, e := parse.Parse("module m\nnever n :- r(" + s + ").")
	if e != api.OK {
		panic("not patterns: " + s + ": " + e.Error() + " at column " + string(rune('0'+p.Col%10)))
	}
	return m.Nevers[0].Body[0].Args
}

// pat is the one pattern of a text.
func pat(s string) api.Expr {
	l := pats(s)
	if len(l) != 1 {
		panic("not one pattern: " + s)
	}
	return l[0]
}

// rowsOf are the rows of patterns of a text, like nil, 1; cons(_, _), 2.
func rowsOf(s string) [][]api.Expr {
	if s == "" {
		return nil
	}
	var rows [][]api.Expr
	for _, row := range strings.Split(s, ";") {
		rows = append(rows, pats(row))
	}
	return rows
}

// val is the value of a text.
func val(s string) api.Value {
	x, _, e := parse.Expr(s)
	if e != api.OK {
		panic("not a value: " + s)
	}
	return valueOf(x)
}

// valueOf is the value of a pattern that is written as that is.
func valueOf(x api.Expr) api.Value {
	v := x.Value
	switch x.Kind {
	case api.Tup:
		v = tuple()
	case api.Make:
		v = cons(x.Name)
	}
	for _, arg := range x.Args {
		v.L = append(v.L, valueOf(arg))
	}
	return v
}

// patternOf is the pattern that matches one value alone.
func patternOf(v api.Value) api.Expr {
	var args []api.Expr
	for _, item := range v.L {
		args = append(args, patternOf(item))
	}
	switch v.Kind {
	case api.Tuple:
		return tup(args...)
	case api.Cons:
		return mk(v.S, args...)
	}
	return lit(v)
}

// bounds are the variables of a text, like X = 1; Y = nil.
func bounds(s string) []cover.Bound {
	if s == "" {
		return nil
	}
	var l []cover.Bound
	for _, b := range strings.Split(s, ";") {
		name, v, _ := strings.Cut(b, "=")
		l = append(l, bound(strings.TrimSpace(name), val(v)))
	}
	return l
}

// shownBounds is the text of variables with their values.
func shownBounds(l []cover.Bound) string {
	var all []string
	for _, b := range l {
		all = append(all, b.Name+" = "+value.Show(b.Value))
	}
	return strings.Join(all, "; ")
}

// shownPattern is the text of a valid pattern; any is written as an underscore.
func shownPattern(p api.Expr) string {
	switch {
	case !tree.Pattern(p):
		return "an invalid pattern"
	case p.Kind == api.Any:
		return "_"
	case len(p.Args) == 0:
		s, _ := tree.Expr(p)
		return s
	}
	return p.Name + "(" + shownRow(p.Args) + ")"
}

func shownRow(l []api.Expr) string {
	var all []string
	for _, p := range l {
		all = append(all, shownPattern(p))
	}
	return strings.Join(all, ", ")
}

func shownRows(rows [][]api.Expr) string {
	var all []string
	for _, row := range rows {
		all = append(all, shownRow(row))
	}
	return strings.Join(all, "; ")
}

// tableOf is the table of a module, which must have one.
func tableOf(t *testing.T, m api.Module) *decl.Table {
	t.Helper()
	x, at, e := decl.New(m)
	if x == nil || e != api.OK {
		t.Fatalf("New: %v at %v", e, at)
	}
	return x
}

func moduleOf(t *testing.T, s string) api.Module {
	t.Helper()
	m, at, e := parse.Parse(s)
	if e != api.OK {
		t.Fatalf("Parse: %v at %v of %s", e, at, s)
	}
	return m
}

// declaredTable is the table of most tests.
func declaredTable(t *testing.T) *decl.Table {
	t.Helper()
	return tableOf(t, moduleOf(t, declared))
}

// checkRows requires whether rows are exhaustive, and which ones are redundant.
func checkRows(t *testing.T, x *decl.Table, xs []api.Type, rows [][]api.Expr, exhaustive bool, redundant ...int) {
	t.Helper()
	if got, e := cover.Covers(x, xs, rows); got != exhaustive || e != api.OK {
		t.Errorf("Covers(%s) of %s: %v, %v", shown(xs...), shownRows(rows), got, e)
	}
	if got, e := cover.Useless(x, xs, rows); !slices.Equal(got, redundant) || e != api.OK {
		t.Errorf("Useless(%s) of %s: %v, %v, not %v", shown(xs...), shownRows(rows), got, e, redundant)
	}
}

// checkCovers requires that rows, as a text, for types, as a text, are exhaustive, and which ones are redundant.
func checkCovers(t *testing.T, x *decl.Table, xs, rows string, redundant ...int) {
	t.Helper()
	checkRows(t, x, types(xs), rowsOf(rows), true, redundant...)
}

// checkMisses requires that rows are not exhaustive, and which ones are redundant.
func checkMisses(t *testing.T, x *decl.Table, xs, rows string, redundant ...int) {
	t.Helper()
	checkRows(t, x, types(xs), rowsOf(rows), false, redundant...)
}

// checkRefused requires an error from both calls.
func checkRefused(t *testing.T, what string, x *decl.Table, xs []api.Type, rows [][]api.Expr, want api.Errno) {
	t.Helper()
	if got, e := cover.Covers(x, xs, rows); got || e != want {
		t.Errorf("%s: Covers: %v, %v, not %v", what, got, e, want)
	}
	if l, e := cover.Useless(x, xs, rows); len(l) != 0 || e != want {
		t.Errorf("%s: Useless: %v, %v, not %v", what, l, e, want)
	}
}

// checkMatch requires that a pattern matches a value, and all that is bound then.
func checkMatch(t *testing.T, p, v, before, want string) {
	t.Helper()
	if l, ok := cover.Match(pat(p), val(v), bounds(before)); !ok || shownBounds(l) != want {
		t.Errorf("Match(%s, %s, %s): %s, %v, not %s", p, v, before, shownBounds(l), ok, want)
	}
}

// checkNoMatch requires that a pattern does not match any of some values.
func checkNoMatch(t *testing.T, p, before string, values ...string) {
	t.Helper()
	for _, v := range values {
		if l, ok := cover.Match(pat(p), val(v), bounds(before)); ok || len(l) != 0 {
			t.Errorf("Match(%s, %s, %s): %s, %v", p, v, before, shownBounds(l), ok)
		}
	}
}

// plain is something in memory of its own, in which each empty list is nil.
func plain[T any](x T) T {
	x = copied(x)
	var visit func(x reflect.Value)
	visit = func(x reflect.Value) {
		switch {
		case x.Kind() == reflect.Slice && x.Len() == 0:
			x.SetZero()
		case x.Kind() == reflect.Slice:
			for i := range x.Len() {
				visit(x.Index(i))
			}
		case x.Kind() == reflect.Struct:
			for i := range x.NumField() {
				visit(x.Field(i))
			}
		}
	}
	visit(reflect.ValueOf(&x).Elem())
	return x
}

// same tells whether two are the same, an empty list being nil or not.
func same[T any](a, b T) bool { return reflect.DeepEqual(plain(a), plain(b)) }

// copied is something in memory of its own, with what is behind the ends of its lists.
func copied[T any](x T) T { return copyOf(reflect.ValueOf(&x).Elem()).Interface().(T) }

func copyOf(x reflect.Value) reflect.Value {
	result := reflect.New(x.Type()).Elem()
	result.Set(x)
	switch x.Kind() {
	case reflect.Struct:
		for i := range x.NumField() {
			result.Field(i).Set(copyOf(x.Field(i)))
		}
	case reflect.Slice:
		if x.IsNil() {
			break
		}
		result.Set(reflect.MakeSlice(x.Type(), x.Cap(), x.Cap()))
		all := x.Slice(0, x.Cap())
		for i := range all.Len() {
			result.Index(i).Set(copyOf(all.Index(i)))
		}
		result.Set(result.Slice(0, x.Len()))
	}
	return result
}
