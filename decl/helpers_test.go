package decl_test

import (
	"reflect"
	"slices"
	"strings"
	"testing"

	"corollary/api"
	"corollary/decl"
	"corollary/parse"
	"corollary/value"
)

func typ(name string, args ...api.Type) api.Type { return api.Type{Name: name, Args: args} }

// types are those of a text, like list('a), tuple(int, 'b).
func types(s string) []api.Type {
	l, rest := readTypes(s)
	if rest != "" {
		panic("not types: " + s)
	}
	return l
}

func readTypes(s string) (l []api.Type, rest string) {
	for {
		s = strings.TrimLeft(s, " ")
		end := strings.IndexAny(s+")", "(),")
		x := typ(s[:end])
		s = s[end:]
		if strings.HasPrefix(s, "(") {
			x.Args, s = readTypes(s[1:])
			s = strings.TrimPrefix(s, ")")
		}
		l = append(l, x)
		if !strings.HasPrefix(s, ",") {
			return l, s
		}
		s = s[1:]
	}
}

// of is the one type of a text.
func of(s string) api.Type {
	l := types(s)
	if len(l) != 1 {
		panic("not one type: " + s)
	}
	return l[0]
}

// shown is the text of types: of the upper levels and the first parts alone, since some types have no end.
func shown(l ...api.Type) string {
	var s strings.Builder
	var write func(l []api.Type, levels int)
	write = func(l []api.Type, levels int) {
		for i, x := range l {
			if levels == 0 || s.Len() > 5000 {
				s.WriteString("..")
				return
			}
			if i > 0 {
				s.WriteString(", ")
			}
			s.WriteString(x.Name[:min(len(x.Name), 40)])
			if len(x.Args) > 0 {
				s.WriteString("(")
				write(x.Args, levels-1)
				s.WriteString(")")
			}
		}
	}
	write(l, 70)
	return s.String()
}

// sameTypes tells whether types are the same to the last name.
func sameTypes(a, b []api.Type) bool {
	return slices.EqualFunc(a, b, func(x, y api.Type) bool { return x.Name == y.Name && sameTypes(x.Args, y.Args) })
}

func sameType(x, y api.Type) bool { return sameTypes([]api.Type{x}, []api.Type{y}) }

// nested is a type of so many levels, the last one of which is another type.
func nested(levels int, name string, last api.Type) api.Type {
	for range levels - 1 {
		last = typ(name, last)
	}
	return last
}

// nestedTuple is a tuple of so many levels, the last one of which is another type.
func nestedTuple(levels int, last api.Type) api.Type {
	for range levels - 1 {
		last = typ("tuple", typ("int"), last)
	}
	return last
}

func times[T any](n int, x T) []T { return slices.Repeat([]T{x}, n) }

func boolean(n int64) api.Value                  { return api.Value{Kind: api.Bool, N: n} }
func num(n int64) api.Value                      { return api.Value{Kind: api.Int, N: n} }
func long(s string) api.Value                    { return api.Value{Kind: api.Big, S: s} }
func text(s string) api.Value                    { return api.Value{Kind: api.Text, S: s} }
func tuple(l ...api.Value) api.Value             { return api.Value{Kind: api.Tuple, L: l} }
func cons(name string, l ...api.Value) api.Value { return api.Value{Kind: api.Cons, S: name, L: l} }

// val is the value of a text, like cons((1, "a"), nil).
func val(s string) api.Value {
	x, _, e := parse.Expr(s)
	if e != api.OK {
		panic("not a value: " + s)
	}
	return valueOf(x)
}

// vals is the tuple, as a list, of texts.
func vals(s ...string) []api.Value {
	var l []api.Value
	for _, x := range s {
		l = append(l, val(x))
	}
	return l
}

func valueOf(x api.Expr) api.Value {
	v := x.Value
	switch x.Kind {
	case api.Tup:
		v = tuple()
	case api.Make:
		v = cons(x.Name)
	}
	for _, arg := range x.Args {
		v.L = append(v.L, valueOf(arg))
	}
	return v
}

// textOf is the text of a value, also of one that is invalid.
func textOf(v api.Value) string {
	if s := value.Show(v); s != "" {
		return s
	}
	if value.Check(v) == api.ErrDeep {
		return "a value that is too deep"
	}
	s := "Kind " + string(rune('0'+v.Kind)) + " " + v.S[:min(len(v.S), 40)]
	for _, item := range v.L[:min(len(v.L), 5)] {
		s += ", " + textOf(item)
	}
	return s
}

// posAt is the position behind so many bytes of a text.
func posAt(s string, offset int) api.Pos {
	before := s[:offset]
	return api.Pos{Line: 1 + strings.Count(before, "\n"), Col: offset - strings.LastIndexByte(before, '\n')}
}

// marked is the module of a text behind its first line, and where the mark ^ is in it, if there is one.
func marked(t *testing.T, s string) (api.Module, api.Pos) {
	t.Helper()
	s = "module m " + s
	before, behind, isMarked := strings.Cut(s, "^")
	m, p, e := parse.Parse(before + behind)
	if e != api.OK {
		t.Fatalf("Parse(%q): %v at %v", s, e, p)
	}
	if isMarked {
		return m, posAt(s, len(before))
	}
	return m, api.Pos{}
}

func moduleOf(t *testing.T, s string) api.Module {
	t.Helper()
	m, _ := marked(t, s)
	return m
}

// made is the table of a module, which must have one.
func made(t *testing.T, m api.Module) *decl.Table {
	t.Helper()
	x, at, e := decl.New(m)
	if x == nil || e != api.OK || at != (api.Pos{}) {
		t.Fatalf("New: %v at %v", e, at)
	}
	return x
}

// tableOf is the table of the module of a text.
func tableOf(t *testing.T, s string) *decl.Table {
	t.Helper()
	return made(t, moduleOf(t, s))
}

// checkRefused requires that a module has no table, but an error at a position.
func checkRefused(t *testing.T, what string, m api.Module, at api.Pos, want api.Errno) {
	t.Helper()
	if x, p, e := decl.New(m); x != nil || e != want || p != at {
		t.Errorf("%s: %v at %v, not %v at %v", what[:min(len(what), 600)], e, p, want, at)
	}
}

// checkText requires that the module of a text has no table, but an error where the mark ^ is; or that it has one, if the error is OK.
func checkText(t *testing.T, s string, want api.Errno) {
	t.Helper()
	m, at := marked(t, s)
	if want != api.OK {
		checkRefused(t, s, m, at, want)
	} else if x, p, e := decl.New(m); x == nil || e != api.OK || p != (api.Pos{}) {
		t.Errorf("%s: %v at %v", s, e, p)
	}
}

// checkWell requires whether types, as texts, are well-formed and without parameters.
func checkWell(t *testing.T, x *decl.Table, want bool, texts ...string) {
	t.Helper()
	for _, s := range texts {
		if got := x.Well(of(s)); got != want {
			t.Errorf("Well(%s): %v", s, got)
		}
	}
}

// checkIs requires which of some types, as texts, values have, as texts.
func checkIs(t *testing.T, x *decl.Table, values, has, hasNot []string) {
	t.Helper()
	for _, s := range values {
		for _, name := range has {
			if !x.Is(val(s), of(name)) {
				t.Errorf("%s has not the type %s", s, name)
			}
		}
		for _, name := range hasNot {
			if x.Is(val(s), of(name)) {
				t.Errorf("%s has the type %s", s, name)
			}
		}
	}
}

// plain is something in memory of its own, in which each empty list is nil.
func plain[T any](x T) T {
	x = copied(x)
	var visit func(x reflect.Value)
	visit = func(x reflect.Value) {
		switch {
		case x.Kind() == reflect.Slice && x.Len() == 0:
			x.SetZero()
		case x.Kind() == reflect.Slice:
			for i := range x.Len() {
				visit(x.Index(i))
			}
		case x.Kind() == reflect.Struct:
			for i := range x.NumField() {
				visit(x.Field(i))
			}
		}
	}
	visit(reflect.ValueOf(&x).Elem())
	return x
}

// same tells whether two are the same, an empty list being nil or not.
func same[T any](a, b T) bool { return reflect.DeepEqual(plain(a), plain(b)) }

// copied is something in memory of its own, with what is behind the ends of its lists.
func copied[T any](x T) T { return copyOf(reflect.ValueOf(&x).Elem()).Interface().(T) }

func copyOf(x reflect.Value) reflect.Value {
	result := reflect.New(x.Type()).Elem()
	result.Set(x)
	switch x.Kind() {
	case reflect.Struct:
		for i := range x.NumField() {
			result.Field(i).Set(copyOf(x.Field(i)))
		}
	case reflect.Slice:
		if x.IsNil() {
			break
		}
		result.Set(reflect.MakeSlice(x.Type(), x.Cap(), x.Cap()))
		all := x.Slice(0, x.Cap())
		for i := range all.Len() {
			result.Index(i).Set(copyOf(all.Index(i)))
		}
		result.Set(result.Slice(0, x.Len()))
	}
	return result
}
