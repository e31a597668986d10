package unify_test

import (
	"cmp"
	"reflect"
	"slices"
	"strings"
	"testing"

	"corollary/api"
	"corollary/unify"
)

func typ(name string, args ...api.Type) api.Type { return api.Type{Name: name, Args: args} }

// types are those of a text, like list('a), 'b.
func types(s string) []api.Type {
	l, rest := read(s)
	if rest != "" {
		panic("not types: " + s)
	}
	return l
}

func read(s string) (l []api.Type, rest string) {
	for {
		s = strings.TrimLeft(s, " ")
		end := strings.IndexAny(s+")", "(),")
		x := typ(s[:end])
		s = s[end:]
		if strings.HasPrefix(s, "(") {
			x.Args, s = read(s[1:])
			s = strings.TrimPrefix(s, ")")
		}
		l = append(l, x)
		if !strings.HasPrefix(s, ",") {
			return l, s
		}
		s = s[1:]
	}
}

// of is the one type of a text.
func of(s string) api.Type {
	l := types(s)
	if len(l) != 1 {
		panic("not one type: " + s)
	}
	return l[0]
}

// shown is the text of types: of the upper levels and the first parts alone, since some types have no end.
func shown(l ...api.Type) string {
	var s strings.Builder
	var write func(l []api.Type, levels int)
	write = func(l []api.Type, levels int) {
		for i, x := range l {
			if levels == 0 || s.Len() > 300 {
				s.WriteString("..")
				return
			}
			if i > 0 {
				s.WriteString(", ")
			}
			s.WriteString(x.Name[:min(len(x.Name), 40)])
			if len(x.Args) > 0 {
				s.WriteString("(")
				write(x.Args, levels-1)
				s.WriteString(")")
			}
		}
	}
	write(l, 20)
	return s.String()
}

// alike tells whether types are the same to the last name.
func alike(a, b []api.Type) bool {
	return slices.EqualFunc(a, b, func(x, y api.Type) bool { return x.Name == y.Name && alike(x.Args, y.Args) })
}

func alikeOnes(x, y api.Type) bool { return alike([]api.Type{x}, []api.Type{y}) }

// nested is a type of so many levels, the last one of which is another type.
func nested(levels int, last api.Type) api.Type {
	for range levels - 1 {
		last = typ("list", last)
	}
	return last
}

// wide is a type of so many parts in two levels.
func wide(parts int, last api.Type) api.Type {
	return typ("tuple", slices.Repeat([]api.Type{last}, parts-1)...)
}

// around is a type with another one within so many levels, first and last among others.
func around(levels int, x api.Type) api.Type {
	for range levels {
		x = typ("t", typ("int"), x, typ("'v"))
	}
	return x
}

// endless is a type that contains itself.
func endless(name string) api.Type {
	l := make([]api.Type, 1)
	l[0] = typ(name, l...)
	return l[0]
}

// endlessTwice is a type that contains itself twice.
func endlessTwice() api.Type {
	l := make([]api.Type, 2)
	l[0] = typ("t", l...)
	l[1] = l[0]
	return l[0]
}

// doubled is a type of so many levels each of which has the next one twice, in the same memory.
func doubled(levels int) api.Type {
	x := typ("int")
	for range levels - 1 {
		x = typ("t", x, x)
	}
	return x
}

// invalid are types that are not valid: of what is wrong in itself, each at several depths; of too many parts and levels; without an end.
func invalid() []api.Type {
	var l []api.Type
	for _, x := range []api.Type{typ(""), typ("", typ("int")), typ("", typ("'a"), typ("'b")), typ("'"), typ("'", typ("int")), typ("'a", typ("int")), typ("'a", typ("'b")), typ("'abc", typ("int"), typ("int")), typ("''", typ("int")), typ("'a", typ("")), endless("'a"), endless("list"), endlessTwice()} {
		for _, levels := range []int{0, 1, 2, 5, 62, 63} {
			l = append(l, around(levels, x))
		}
	}
	for _, s := range []string{"int", "'a", "tuple"} {
		l = append(l, nested(65, typ(s)), nested(66, typ(s)), nested(1000, typ(s)), wide(2049, typ(s)), wide(2050, typ(s)), wide(100000, typ(s)), typ("t", typ(s), wide(2047, typ(s))), typ("t", wide(1024, typ(s)), wide(1024, typ(s))), around(64, typ(s)))
	}
	return append(l, doubled(12), doubled(40), doubled(70))
}

// valid are types that are, some of them just so.
func valid() []api.Type {
	l := types("int, bool, tuple, list('a), tuple('a, 'b, 'a), t(t(t, t), t('a, t(t, 'b))), a'b, a'(a'), a.b(c.d), A(B), _, '_, '1, '', ''', 'a', 'a b, '-")
	for _, s := range []string{"int", "'a", "tuple", "\x00", "\xff", "'\x00", "'\xff", "' ", " ", "\"", "1", "'" + strings.Repeat("x", 5000), strings.Repeat("x", 5000)} {
		l = append(l, typ(s), typ("t", typ(s), typ("int")), nested(63, typ(s)), nested(64, typ(s)), wide(2047, typ(s)), wide(2048, typ(s)), typ("t", typ(s), wide(2046, typ(s))), typ("t", wide(1024, typ(s)), wide(1023, typ(s))), around(63, typ(s)))
	}
	return append(l, doubled(11), nested(64, wide(1, typ("int"))), nested(63, wide(1986, typ("'a"))))
}

// checkUnify requires that two types, as texts, are unified, or not, in either order.
func checkUnify(t *testing.T, x *unify.Table, a, b string, want api.Errno) {
	t.Helper()
	if e := x.Copy().Unify(of(b), of(a)); e != want {
		t.Errorf("Unify(%s, %s): %v, not %v", b, a, e, want)
	}
	if e := x.Unify(of(a), of(b)); e != want {
		t.Errorf("Unify(%s, %s): %v, not %v", a, b, e, want)
	}
}

// checkResolved requires what some types, as texts, are when they are resolved.
func checkResolved(t *testing.T, x *unify.Table, given, want string) {
	t.Helper()
	for i, a := range types(given) {
		if got, e := x.Resolve(a); e != api.OK || !alikeOnes(got, types(want)[i]) {
			t.Errorf("Resolve(%s): %s, %v, not %s", shown(a), shown(got), e, shown(types(want)[i]))
		}
	}
}

// tableOf is a table in which pairs of types are unified, as in 'a = int; 'b = list('a).
func tableOf(t *testing.T, pairs string) *unify.Table {
	t.Helper()
	x := unify.New()
	for pair := range strings.SplitSeq(pairs, ";") {
		a, b, _ := strings.Cut(strings.TrimSpace(pair), " = ")
		if e := x.Unify(of(a), of(b)); e != api.OK {
			t.Fatalf("Unify(%s, %s): %v", a, b, e)
		}
	}
	return x
}

// resolved is a type resolved in a table, which must be possible.
func resolved(t *testing.T, x *unify.Table, a api.Type) api.Type {
	t.Helper()
	got, e := x.Resolve(a)
	if e != api.OK {
		t.Fatalf("Resolve(%s): %v", shown(a), e)
	}
	return got
}

// copied is something in memory of its own, with what is behind the ends of its lists.
func copied[T any](x T) T {
	return copyOf(reflect.ValueOf(&x).Elem()).Interface().(T)
}

func copyOf(x reflect.Value) reflect.Value {
	result := reflect.New(x.Type()).Elem()
	result.Set(x)
	switch x.Kind() {
	case reflect.Interface:
		if !x.IsNil() {
			result.Set(copyOf(x.Elem()))
		}
	case reflect.Struct:
		for i := range x.NumField() {
			result.Field(i).Set(copyOf(x.Field(i)))
		}
	case reflect.Slice:
		if x.IsNil() {
			break
		}
		result.Set(reflect.MakeSlice(x.Type(), x.Cap(), x.Cap()))
		all := x.Slice(0, x.Cap())
		for i := range all.Len() {
			result.Index(i).Set(copyOf(all.Index(i)))
		}
		result.Set(result.Slice(0, x.Len()))
	}
	return result
}

// lists are all lists in something, each with what is behind its end.
func lists(x reflect.Value) []reflect.Value {
	var l []reflect.Value
	switch x.Kind() {
	case reflect.Struct:
		for i := range x.NumField() {
			l = append(l, lists(x.Field(i))...)
		}
	case reflect.Slice:
		whole := x.Slice(0, x.Cap())
		if x.Cap() > 0 {
			l = append(l, whole)
		}
		for i := range whole.Len() {
			l = append(l, lists(whole.Index(i))...)
		}
	}
	return l
}

func listsIn(all ...any) []reflect.Value {
	var l []reflect.Value
	for _, x := range all {
		l = append(l, lists(reflect.ValueOf(x))...)
	}
	return l
}

// checkApart requires that no two of some lists share memory.
func checkApart(t *testing.T, l []reflect.Value) {
	t.Helper()
	type part struct{ begin, end uintptr }
	var parts []part
	for _, x := range l {
		parts = append(parts, part{x.Pointer(), x.Pointer() + uintptr(x.Len())*x.Type().Elem().Size()})
	}
	slices.SortFunc(parts, func(a, b part) int { return cmp.Compare(a.begin, b.begin) })
	for i, x := range parts[min(1, len(parts)):] {
		if x.begin < parts[i].end {
			t.Fatalf("%d lists share memory", len(l))
		}
	}
}

// spoil overwrites all lists in something, with what is behind their ends.
func spoil(all ...any) {
	for _, list := range listsIn(all...) {
		for i := range list.Len() {
			list.Index(i).SetZero()
		}
	}
}
