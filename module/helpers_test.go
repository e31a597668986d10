package module_test

import (
	"reflect"
	"slices"
	"strings"
	"testing"

	"corollary/api"
	"corollary/module"
	"corollary/parse"
	"corollary/tree"
)

// brief is the beginning of a text, for a message.
func brief(s string) string { return s[:min(len(s), 600)] }

// posAt is the position behind so many bytes of a text.
func posAt(s string, offset int) api.Pos {
	before := s[:offset]
	return api.Pos{Line: 1 + strings.Count(before, "\n"), Col: offset - strings.LastIndexByte(before, '\n')}
}

// moduleOf is the module of a text.
func moduleOf(t *testing.T, s string) api.Module {
	t.Helper()
	m, p, e := parse.Parse(s)
	if e != api.OK {
		t.Fatalf("Parse(%q): %v at %v", brief(s), e, p)
	}
	return m
}

// modulesOf are the modules of texts, and where the mark ^ is in them, if there is one.
func modulesOf(t *testing.T, texts ...string) ([]api.Module, module.Where) {
	t.Helper()
	var l []api.Module
	var at module.Where
	for _, s := range texts {
		before, behind, marked := strings.Cut(s, "^")
		m := moduleOf(t, before+behind)
		if marked {
			at = module.Where{Module: m.Name, Pos: posAt(s, len(before))}
		}
		l = append(l, m)
	}
	return l, at
}

func whereIn(name string, pos api.Pos) module.Where {
	return module.Where{Module: name, Pos: pos}
}

// eachString visits all names in something, but not the texts of values.
func eachString(x reflect.Value, visit func(reflect.Value)) {
	switch {
	case x.Type() == reflect.TypeFor[api.Value]():
	case x.Kind() == reflect.String:
		visit(x)
	case x.Kind() == reflect.Struct:
		for i := range x.NumField() {
			eachString(x.Field(i), visit)
		}
	case x.Kind() == reflect.Slice:
		for i := range x.Len() {
			eachString(x.Index(i), visit)
		}
	}
}

// renamed is a module in memory of its own, with other names.
func renamed(m api.Module, name func(string) string) api.Module {
	m = copied(m)
	eachString(reflect.ValueOf(&m).Elem(), func(x reflect.Value) { x.SetString(name(x.String())) })
	return m
}

// programOf is the program of a text, in which __ stands for the dot in names, as names with dots can't be declared in a text.
func programOf(t *testing.T, s string) api.Module {
	t.Helper()
	return renamed(moduleOf(t, s), func(s string) string { return strings.ReplaceAll(s, "__", ".") })
}

// shown is the text of a program, with __ for the dots in names.
func shown(m api.Module) string {
	s, e := tree.Print(renamed(m, func(s string) string { return strings.ReplaceAll(s, ".", "__") }))
	if e != api.OK {
		return "it can't be printed: " + e.Error()
	}
	return s
}

// flat is the program of modules that have one.
func flat(t *testing.T, l ...api.Module) api.Module {
	t.Helper()
	m, at, e := module.Flatten(l)
	if e != api.OK || at != (module.Where{}) {
		t.Fatalf("Flatten: %v at %+v", e, at)
	}
	return m
}

// checkModules requires that modules have a program, to the last position.
func checkModules(t *testing.T, what string, l []api.Module, want api.Module) {
	t.Helper()
	m, at, e := module.Flatten(l)
	if e != api.OK || at != (module.Where{}) {
		t.Errorf("%s: %v at %+v", brief(what), e, at)
	} else if m.Name != want.Name || len(m.Imports) > 0 || !reflect.DeepEqual(plain(m), plain(want)) {
		t.Errorf("%s:\n%s\nnot\n%s", brief(what), brief(shown(m)), brief(shown(want)))
	}
}

// checkProgram requires that texts have the program of a text, apart from positions.
func checkProgram(t *testing.T, want string, texts ...string) {
	t.Helper()
	l, _ := modulesOf(t, texts...)
	m := flat(t, l...)
	if program := programOf(t, want); !alike(m, program) {
		t.Errorf("%q:\n%s\nnot\n%s", texts, brief(shown(m)), brief(shown(program)))
	}
}

// checkRefused requires that modules have no program, but an error at a place.
func checkRefused(t *testing.T, what string, l []api.Module, want module.Where, error api.Errno) {
	t.Helper()
	m, at, e := module.Flatten(l)
	if e != error || at != want || !reflect.ValueOf(m).IsZero() {
		t.Errorf("%s: %v at %+v, not %v at %+v", brief(what), e, at, error, want)
	}
}

// checkRefusedAt requires that texts have no program, but an error where the mark ^ is.
func checkRefusedAt(t *testing.T, error api.Errno, texts ...string) {
	t.Helper()
	l, at := modulesOf(t, texts...)
	checkRefused(t, strings.Join(texts, "\n\n"), l, at, error)
}

// checkAccepted requires that texts have a program; a mark ^ in them is nothing.
func checkAccepted(t *testing.T, texts ...string) {
	t.Helper()
	l, _ := modulesOf(t, texts...)
	if _, at, e := module.Flatten(l); e != api.OK || at != (module.Where{}) {
		t.Errorf("%q: %v at %+v", texts, e, at)
	}
}

// copied is something in memory of its own, with what is behind the ends of its lists.
func copied[T any](x T) T {
	return copyOf(reflect.ValueOf(&x).Elem()).Interface().(T)
}

func copyOf(x reflect.Value) reflect.Value {
	result := reflect.New(x.Type()).Elem()
	result.Set(x)
	switch x.Kind() {
	case reflect.Struct:
		for i := range x.NumField() {
			result.Field(i).Set(copyOf(x.Field(i)))
		}
	case reflect.Slice:
		if x.IsNil() {
			break
		}
		result.Set(reflect.MakeSlice(x.Type(), x.Cap(), x.Cap()))
		all := x.Slice(0, x.Cap())
		for i := range all.Len() {
			result.Index(i).Set(copyOf(all.Index(i)))
		}
		result.Set(result.Slice(0, x.Len()))
	}
	return result
}

// plain is something in which each empty list is nil.
func plain[T any](x T) T {
	return simplified(x, func(x reflect.Value) bool { return x.Kind() == reflect.Slice && x.Len() == 0 })
}

// withoutPositions is something in which each empty list is nil, and each position 0.
func withoutPositions[T any](x T) T {
	return simplified(plain(x), func(x reflect.Value) bool { return x.Type() == reflect.TypeFor[api.Pos]() })
}

// simplified is something in memory of its own, in which nothing is left of some.
func simplified[T any](x T, of func(reflect.Value) bool) T {
	x = copied(x)
	var visit func(x reflect.Value)
	visit = func(x reflect.Value) {
		switch {
		case of(x):
			x.SetZero()
		case x.Kind() == reflect.Struct:
			for i := range x.NumField() {
				visit(x.Field(i))
			}
		case x.Kind() == reflect.Slice:
			for i := range x.Len() {
				visit(x.Index(i))
			}
		}
	}
	visit(reflect.ValueOf(&x).Elem())
	return x
}

// alike tells whether two are the same, apart from positions, an empty list being nil or not.
func alike[T any](a, b T) bool { return reflect.DeepEqual(withoutPositions(a), withoutPositions(b)) }

func times[T any](n int, x T) []T { return slices.Repeat([]T{x}, n) }
