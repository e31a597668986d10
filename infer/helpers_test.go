package infer_test

import (
	"reflect"
	"slices"
	"strings"
	"testing"

	"corollary/api"
	"corollary/infer"
	"corollary/parse"
)

// declared is what the modules of most tests declare. Each relation's name is that of its field's type, if that has a short one.
const declared = `
type list('a) = nil | cons(head: 'a, tail: list('a))
type pair('a, 'b) = pair(first: 'a, second: 'b)
type box('a) = box(v: 'a)
type pt = pt(x: int, y: text)
type line = line(from: pt, to: pt)
type named('a) = named(int, name: text, what: 'a, all: list('a), text)
type ghost('a) = ghost(n: int)
type opt('a) = none | some('a)
type dot = dot
input b(x: bool) input n(x: int) input g(x: big) input t(x: text)
input ln(x: list(int)) input lt(x: list(text)) input bp(x: box(pt)) input pl(x: pair(line, list(line))) input pt(x: pt)
input u(x: ()) input nt(x: int, y: text) input tu(x: (int, (text, bool))) input ot(x: opt(text)) input none()
rel p() rel pb(x: bool) rel pn(x: int) rel pg(x: big) rel pt2(x: text) rel pln(x: list(int)) rel pnt(x: int, y: text)
rel ptu(x: (int, text)) rel pbp(x: box(pt)) rel png(x: int, y: big) rel pgh(x: ghost(text))
`

func typ(name string, args ...api.Type) api.Type { return api.Type{Name: name, Args: args} }

// types are those of a text, like list('a), tuple(int, 'b).
func types(s string) []api.Type {
	l, rest := readTypes(s)
	if rest != "" {
		panic("not types: " + s)
	}
	return l
}

func readTypes(s string) (l []api.Type, rest string) {
	for {
		s = strings.TrimLeft(s, " ")
		end := strings.IndexAny(s+")", "(),")
		x := typ(s[:end])
		s = s[end:]
		if strings.HasPrefix(s, "(") {
			x.Args, s = readTypes(s[1:])
			s = strings.TrimPrefix(s, ")")
		}
		l = append(l, x)
		if !strings.HasPrefix(s, ",") {
			return l, s
		}
		s = s[1:]
	}
}

// of is the one type of a text.
func of(s string) api.Type {
	l := types(s)
	if len(l) != 1 {
		panic("not one type: " + s)
	}
	return l[0]
}

// shown is the text of a type.
func shown(x api.Type) string {
	if len(x.Args) == 0 {
		return x.Name
	}
	var args []string
	for _, arg := range x.Args {
		args = append(args, shown(arg))
	}
	return x.Name + "(" + strings.Join(args, ", ") + ")"
}

// shownVars is the text of variables with their types, like X int; L list('a).
func shownVars(l []infer.Var) string {
	var all []string
	for _, v := range l {
		all = append(all, v.Name+" "+shown(v.Type))
	}
	return strings.Join(all, "; ")
}

// shownTypes is the text of all types, each rule and never on a line of its own.
func shownTypes(x infer.Types) string {
	var lines []string
	for _, l := range x.Rules {
		lines = append(lines, shownVars(l))
	}
	lines = append(lines, "--")
	for _, l := range x.Nevers {
		lines = append(lines, shownVars(l))
	}
	return strings.Join(lines, "\n")
}

// nested is a type of so many levels, the last one of which is another type.
func nested(levels int, name string, last api.Type) api.Type {
	for range levels - 1 {
		last = typ(name, last)
	}
	return last
}

func times[T any](n int, x T) []T { return slices.Repeat([]T{x}, n) }

// repeated is a text so many times, with commas.
func repeated(n int, s string) string { return strings.Join(times(n, s), ", ") }

// posAt is the position behind so many bytes of a text.
func posAt(s string, offset int) api.Pos {
	before := s[:offset]
	return api.Pos{Line: 1 + strings.Count(before, "\n"), Col: offset - strings.LastIndexByte(before, '\n')}
}

// marked is the module of a text behind its first line, and where the mark ^ is in it, if there is one.
func marked(t *testing.T, s string) (api.Module, api.Pos) {
	t.Helper()
	s = "module m " + s
	before, behind, isMarked := strings.Cut(s, "^")
	m, p, e := parse.Parse(before + behind)
	if e != api.OK {
		t.Fatalf("Parse: %v at %v of %s", e, p, s)
	}
	if isMarked {
		return m, posAt(s, len(before))
	}
	return m, api.Pos{}
}

func moduleOf(t *testing.T, s string) api.Module {
	t.Helper()
	m, _ := marked(t, s)
	return m
}

// made are the types of a module, which must have some.
func made(t *testing.T, m api.Module) infer.Types {
	t.Helper()
	x, at, e := infer.Make(m)
	if e != api.OK || at != (api.Pos{}) || len(x.Rules) != len(m.Rules) || len(x.Nevers) != len(m.Nevers) {
		t.Fatalf("Make: %v at %v, %d and %d", e, at, len(x.Rules), len(x.Nevers))
	}
	return x
}

// checkRefused requires that a module has no types, but an error at a position.
func checkRefused(t *testing.T, what string, m api.Module, at api.Pos, want api.Errno) {
	t.Helper()
	x, p, e := infer.Make(m)
	if e != want || p != at {
		t.Errorf("%s: %v at %v, not %v at %v", what[:min(len(what), 300)], e, p, want, at)
	}
	if e != api.OK && (x.Rules != nil || x.Nevers != nil) {
		t.Errorf("%s: with the error there is %s", what[:min(len(what), 300)], shownTypes(x))
	}
}

// checkText requires that the rules and nevers of a text, behind what is declared, have no types, but an error where the mark ^ is.
func checkText(t *testing.T, s string, want api.Errno) {
	t.Helper()
	m, at := marked(t, declared+s)
	checkRefused(t, s, m, at, want)
}

// checkTypes requires the types of the rules and nevers of a text: of each on a line of its own, those of nevers behind --.
func checkTypes(t *testing.T, s, want string) {
	t.Helper()
	if got := shownTypes(made(t, moduleOf(t, declared+s))); got != want {
		t.Errorf("%s: %s, not %s", s, got, want)
	}
}

// checkBody requires the types of the variables in a body, in a rule and in a never; between two rules that have other ones.
func checkBody(t *testing.T, body, want string) {
	t.Helper()
	checkTypes(t, "p() :- Other = 1. p() :- "+body+". p() :- Other = true.", "Other int\n"+want+"\nOther bool\n--")
	checkTypes(t, "never a :- Other = 1. never b :- "+body+". never c :- Other = true.", "--\nOther int\n"+want+"\nOther bool")
}

// checkBodyRefused requires that the types in a body cannot be unified, in a rule and in a never.
func checkBodyRefused(t *testing.T, bodies ...string) {
	t.Helper()
	for _, body := range bodies {
		checkText(t, "p() :- Other = 1. p() :- "+body+". p() :- Other = true.", api.ErrType)
		checkText(t, "never a :- Other = 1. never b :- "+body+". never c :- Other = true.", api.ErrType)
	}
}

// plain is something in memory of its own, in which each empty list is nil.
func plain[T any](x T) T {
	x = copied(x)
	var visit func(x reflect.Value)
	visit = func(x reflect.Value) {
		switch {
		case x.Kind() == reflect.Slice && x.Len() == 0:
			x.SetZero()
		case x.Kind() == reflect.Slice:
			for i := range x.Len() {
				visit(x.Index(i))
			}
		case x.Kind() == reflect.Struct:
			for i := range x.NumField() {
				visit(x.Field(i))
			}
		}
	}
	visit(reflect.ValueOf(&x).Elem())
	return x
}

// same tells whether two are the same, an empty list being nil or not.
func same[T any](a, b T) bool { return reflect.DeepEqual(plain(a), plain(b)) }

// copied is something in memory of its own, with what is behind the ends of its lists.
func copied[T any](x T) T { return copyOf(reflect.ValueOf(&x).Elem()).Interface().(T) }

func copyOf(x reflect.Value) reflect.Value {
	result := reflect.New(x.Type()).Elem()
	result.Set(x)
	switch x.Kind() {
	case reflect.Struct:
		for i := range x.NumField() {
			result.Field(i).Set(copyOf(x.Field(i)))
		}
	case reflect.Slice:
		if x.IsNil() {
			break
		}
		result.Set(reflect.MakeSlice(x.Type(), x.Cap(), x.Cap()))
		all := x.Slice(0, x.Cap())
		for i := range all.Len() {
			result.Index(i).Set(copyOf(all.Index(i)))
		}
		result.Set(result.Slice(0, x.Len()))
	}
	return result
}

// replacedName is a type in which each of a name has another one.
func replacedName(x api.Type, name, by string) api.Type {
	result := typ(x.Name)
	if x.Name == name {
		result.Name = by
	}
	for _, arg := range x.Args {
		result.Args = append(result.Args, replacedName(arg, name, by))
	}
	return result
}
