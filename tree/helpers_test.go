package tree_test

import (
	"reflect"
	"regexp"
	"slices"
	"strings"
	"testing"

	"corollary/api"
	"corollary/tree"
)

func typ(name string, args ...api.Type) api.Type { return api.Type{Name: name, Args: args} }

func lit(v api.Value) api.Expr                 { return api.Expr{Kind: api.Lit, Value: v} }
func truth(n int64) api.Expr                   { return lit(api.Value{Kind: api.Bool, N: n}) }
func num(n int64) api.Expr                     { return lit(api.Value{Kind: api.Int, N: n}) }
func long(s string) api.Expr                   { return lit(api.Value{Kind: api.Big, S: s}) }
func text(s string) api.Expr                   { return lit(api.Value{Kind: api.Text, S: s}) }
func variable(s string) api.Expr               { return api.Expr{Kind: api.Var, Name: s} }
func anything() api.Expr                       { return api.Expr{Kind: api.Any} }
func tup(l ...api.Expr) api.Expr               { return api.Expr{Kind: api.Tup, Args: l} }
func cons(name string, l ...api.Expr) api.Expr { return api.Expr{Kind: api.Make, Name: name, Args: l} }
func call(name string, l ...api.Expr) api.Expr { return api.Expr{Kind: api.Call, Name: name, Args: l} }
func field(name string, l ...api.Expr) api.Expr {
	return api.Expr{Kind: api.Field, Name: name, Args: l}
}
func choice(l ...api.Expr) api.Expr { return api.Expr{Kind: api.If, Args: l} }
func atom(rel string, l ...api.Expr) api.Literal {
	return api.Literal{Kind: api.Atom, Rel: rel, Args: l}
}
func not(rel string, l ...api.Expr) api.Literal { return api.Literal{Kind: api.Not, Rel: rel, Args: l} }
func cond(l ...api.Expr) api.Literal            { return api.Literal{Kind: api.Cond, Args: l} }
func bind(name string, l ...api.Expr) api.Literal {
	return api.Literal{Kind: api.Bind, Rel: name, Args: l}
}
func named(name string, t api.Type) api.FieldDef      { return api.FieldDef{Name: name, Type: t} }
func unnamed(t api.Type) api.FieldDef                 { return api.FieldDef{Type: t} }
func consDef(s string, l ...api.FieldDef) api.ConsDef { return api.ConsDef{Name: s, Fields: l} }

// rule is a rule without aggregates.
func rule(rel string, args []api.Expr, body ...api.Literal) api.Rule {
	return api.Rule{Rel: rel, Args: args, Aggs: make([]string, len(args)), Body: body}
}

func never(name string, body ...api.Literal) api.Never { return api.Never{Name: name, Body: body} }
func exprs(l ...api.Expr) []api.Expr                   { return l }
func times[T any](n int, x T) []T                      { return slices.Repeat([]T{x}, n) }

// nestedExpr is an expression, and a pattern, of a depth with an innermost one.
func nestedExpr(depth int, innermost api.Expr) api.Expr {
	e := innermost
	for range depth - 1 {
		e = cons("s", e)
	}
	return e
}

func nestedType(depth int, innermost api.Type) api.Type {
	x := innermost
	for range depth - 1 {
		x = typ("list", x)
	}
	return x
}

// endless is an expression that contains itself.
func endless() api.Expr {
	l := exprs(variable("X"), api.Expr{})
	l[1] = tup(l...)
	return l[1]
}

// endlessTwice is an expression that contains itself twice.
func endlessTwice() api.Expr {
	l := make([]api.Expr, 2)
	l[0], l[1] = tup(l...), tup(l...)
	return l[0]
}

func endlessType() api.Type {
	l := make([]api.Type, 2)
	l[0], l[1] = typ("tuple", l...), typ("tuple", l...)
	return l[0]
}

func endlessValue() api.Value {
	l := make([]api.Value, 2)
	l[0] = api.Value{Kind: api.Tuple, L: l}
	l[1] = l[0]
	return l[0]
}

func reserved() []string {
	return strings.Fields("module import pub type input rel never not and or if then else true false count sum min max neg len big int bool text tuple")
}

func binary() []string { return strings.Fields("+ - * / % ++ == != < <= > >= and or") }

func functions() []string { return strings.Fields("neg len big int") }

func aggregates() []string { return strings.Fields("count sum min max") }

var (
	plainPattern    = regexp.MustCompile(`\A[a-z][A-Za-z0-9_]{0,31}\z`)
	variablePattern = regexp.MustCompile(`\A[A-Z][A-Za-z0-9_]{0,31}\z`)
)

// isPlain, isLong and isVariable are what the document says of names.
func isPlain(s string) bool { return plainPattern.MatchString(s) && !slices.Contains(reserved(), s) }

func isLong(s string) bool {
	parts := strings.Split(s, ".")
	return len(parts) <= 2 && !slices.ContainsFunc(parts, func(s string) bool { return !isPlain(s) })
}

func isVariable(s string) bool {
	return regexp.MustCompile(`\A[A-Z][A-Za-z0-9_]{0,31}\z`).MatchString(s)
}

// candidates are texts that are names of one sort or another, or nearly.
func candidates() []string {
	name, capital := strings.Repeat("n", 32), strings.Repeat("N", 32)
	l := []string{
		"", "a", "z", "A", "Z", "_", "__", "_a", "a_", "X_", "aX", "Xa", "a1", "1a", "1", "a'", "'", "'a", "''a", "'A", "'_", "' a", "'a ", "'1", "'a.b", "a.'b", "a-b", "a b", " a", "a ", "a\n", "\na", "a\x00", "\x00", "\xff", "a\xff", "\u00e4", "a\u00e4", "a\u0661", "\u0430",
		"a.b", "a.b.c", "a.b.c.d", ".a", "a.", ".", "..", "a..b", "a.b.", ".a.b", "a.B", "A.b", "A.B", "a._", "_.a", "a.1", "1.a", "a .b", "a. b", "X.", ".X", "X.a", "a:b", "a(b)", "a()", "abcdefghijklmnopqrstuvwxyz", "zABCDEFGHIJKLMNOPQRSTUVWXYZ", "a0123456789_", "Abcdefghijklmnopqrstuvwxyz", "ZABCDEFGHIJKLMNOPQRSTUVWXYZ", "Z0123456789_",
		"modules", "modul", "Module", "MODULE", "nott", "no", "Not", "xor", "iff", "i", "trues", "True", "counts", "sums", "m", "maxi", "negs", "lens", "bigs", "ints", "in", "bools", "texts", "tuples", "tupl", "+", "==", "rule", "list", "nil", "e", "x0a",
		name, name + "n", "n" + name[1:] + "_", name + "." + name, name + "n." + name, name + "." + name + "n", name + ".a", "a." + name, "a." + name + "n", name + "n.a", capital, capital + "N", capital + "n", "'" + name, "'" + name + "n", strings.Repeat("a", 5000), strings.Repeat("X", 5000),
	}
	for _, s := range reserved() {
		l = append(l, s, "'"+s, s+".a", "a."+s, s+"."+s, s+"_", s+"0", "a."+s+"s", strings.ToUpper(s), strings.ToUpper(s[:1])+s[1:])
	}
	for n := range 256 {
		c := string([]byte{byte(n)})
		l = append(l, c, c+"a", "a"+c, "A"+c, "'"+c, "a."+c, "a"+c+"b", c+".a")
	}
	return l
}

// brief is the beginning of a text, for a message.
func brief(s string) string { return s[:min(len(s), 200)] }

// checkText requires that a module is printed as these lines behind its name, m.
func checkText(t *testing.T, m api.Module, lines ...string) {
	t.Helper()
	m.Name = "m"
	want := strings.Join(append([]string{"module m"}, lines...), "\n") + "\n"
	if s, e := tree.Print(m); e != api.OK || s != want {
		t.Errorf("Print: %v\n%s\nnot\n%s", e, brief(s), brief(want))
	}
	if e := tree.Check(m); e != api.OK {
		t.Errorf("Check: %v: %s", e, brief(want))
	}
}

// checkRefused requires that a module can't be printed.
func checkRefused(t *testing.T, what string, m api.Module, want api.Errno) {
	t.Helper()
	if e := tree.Check(m); e != want {
		t.Errorf("Check, %s: %v, not %v", brief(what), e, want)
	}
	if s, e := tree.Print(m); e != want || s != "" {
		t.Errorf("Print, %s: %v, not %v: %q", brief(what), e, want, brief(s))
	}
}

// checkModule requires that a module can be printed, or not, as an error says.
func checkModule(t *testing.T, what string, m api.Module, want api.Errno) {
	t.Helper()
	if want != api.OK {
		checkRefused(t, what, m, want)
		return
	}
	e := tree.Check(m)
	s, f := tree.Print(m)
	if e != api.OK || f != api.OK || !strings.HasPrefix(s, "module "+m.Name+"\n") {
		t.Errorf("%s: %v, %v: %q", brief(what), e, f, brief(s))
	}
}

// checkExpr requires that an expression has a text.
func checkExpr(t *testing.T, e api.Expr, want string) {
	t.Helper()
	if s, f := tree.Expr(e); f != api.OK || s != want {
		t.Errorf("Expr: %v, %s, not %s", f, brief(s), brief(want))
	}
}

// checkNoExpr requires that an expression has none, wherever it stands.
func checkNoExpr(t *testing.T, what string, e api.Expr, want api.Errno) {
	t.Helper()
	if s, f := tree.Expr(e); f != want || s != "" {
		t.Errorf("Expr, %s: %v, not %v: %q", brief(what), f, want, brief(s))
	}
	checkRefused(t, what+" in a head", api.Module{Name: "m", Rules: []api.Rule{rule("p", exprs(e))}}, want)
	for _, l := range []api.Literal{cond(e), bind("X", e)} {
		checkRefused(t, what+" in a rule", api.Module{Name: "m", Rules: []api.Rule{rule("p", nil, l)}}, want)
		checkRefused(t, what+" in a never", api.Module{Name: "m", Nevers: []api.Never{never("n", l)}}, want)
	}
}

// checkPattern requires that a pattern may be, or not, as an error says, wherever it stands.
func checkPattern(t *testing.T, what string, e api.Expr, want api.Errno) {
	t.Helper()
	if is := tree.Pattern(e); is != (want == api.OK) {
		t.Errorf("Pattern, %s: %t", brief(what), is)
	}
	for _, l := range []api.Literal{atom("p", e), not("p", e)} {
		checkModule(t, what+" in a rule", api.Module{Name: "m", Rules: []api.Rule{rule("p", nil, l)}}, want)
		checkModule(t, what+" in a never", api.Module{Name: "m", Nevers: []api.Never{never("n", l)}}, want)
	}
}

// copied is something in memory of its own, with what is behind the ends of its lists.
func copied[T any](x T) T {
	return copyOf(reflect.ValueOf(&x).Elem()).Interface().(T)
}

func copyOf(x reflect.Value) reflect.Value {
	result := reflect.New(x.Type()).Elem()
	result.Set(x)
	switch x.Kind() {
	case reflect.String:
		result.SetString(strings.Clone(x.String()))
	case reflect.Struct:
		for i := range x.NumField() {
			result.Field(i).Set(copyOf(x.Field(i)))
		}
	case reflect.Slice:
		if x.IsNil() {
			break
		}
		result.Set(reflect.MakeSlice(x.Type(), x.Cap(), x.Cap()))
		all := x.Slice(0, x.Cap())
		for i := range all.Len() {
			result.Index(i).Set(copyOf(all.Index(i)))
		}
		result.Set(result.Slice(0, x.Len()))
	}
	return result
}

// plain is something without positions, each empty list being nil.
func plain[T any](x T) T {
	x = copied(x)
	simplify(reflect.ValueOf(&x).Elem())
	return x
}

func simplify(x reflect.Value) {
	switch {
	case x.Type() == reflect.TypeFor[api.Pos]() || x.Kind() == reflect.Slice && x.Len() == 0:
		x.SetZero()
	case x.Kind() == reflect.Struct:
		for i := range x.NumField() {
			simplify(x.Field(i))
		}
	case x.Kind() == reflect.Slice:
		for i := range x.Len() {
			simplify(x.Index(i))
		}
	}
}

// alike tells whether two are the same, apart from positions, an empty list being nil or not.
func alike[T any](a, b T) bool { return reflect.DeepEqual(plain(a), plain(b)) }
