package parse_test

import (
	"reflect"
	"strings"
	"sync"
	"testing"

	"corollary/api"
	"corollary/lex"
	"corollary/parse"
	"corollary/tree"
)

// checkAnyText requires of any text that it is read, and can be printed and read again, or refused with an error at a place in it.
func checkAnyText(t *testing.T, s string) {
	t.Helper()
	lines := strings.Split(s, "\n")
	isPlace := func(p api.Pos) bool {
		return p == api.Pos{Line: 1, Col: 1} || 1 <= p.Line && p.Line <= len(lines) && 1 <= p.Col && p.Col <= len(lines[p.Line-1])
	}
	m, p, e := parse.Parse(s)
	switch {
	case e != api.OK && (!isPlace(p) || !isZero(m)):
		t.Errorf("Parse(%q): %v at %v, with %+v", brief(s), e, p, m)
	case e == api.OK:
		printed, e := tree.Print(m)
		if again, _, f := parse.Parse(printed); e != api.OK || f != api.OK || p != (api.Pos{}) || !tree.Same(m, again) {
			t.Errorf("Parse(%q): at %v, %v, %v: %q", brief(s), p, e, f, brief(printed))
		}
	}
	x, p, e := parse.Expr(s)
	switch {
	case e != api.OK && (!isPlace(p) || !isZero(x)):
		t.Errorf("Expr(%q): %v at %v, with %+v", brief(s), e, p, x)
	case e == api.OK:
		printed, e := tree.Expr(x)
		if again, _, f := parse.Expr(printed); e != api.OK || f != api.OK || p != (api.Pos{}) || !alike(x, again) {
			t.Errorf("Expr(%q): at %v, %v, %v: %q", brief(s), p, e, f, brief(printed))
		}
	}
}

// TestR1AnyBytes has texts of any bytes, and texts that are right but for some of their bytes.
func TestR1AnyBytes(t *testing.T) {
	g := newGenerator(11)
	for range 20000 {
		b := make([]byte, g.IntN(30))
		for i := range b {
			b[i] = byte(g.IntN(256))
		}
		checkAnyText(t, string(b))
	}
	for range 20000 {
		x := g.expr(3)
		s := textOfExpr(g, &x, 4)
		if g.chance(2) {
			m := g.module(1)
			s = textOfModule(g, &m)
		}
		b := []byte(s)
		for range 1 + g.IntN(2) {
			b[g.IntN(len(b))] = pick(g, byte(g.IntN(256)), ' ', '(', ')', ',', '.', '-', 'X', 'a', '1', '"', '\n', '#')
		}
		checkAnyText(t, string(b))
	}
	for n := range 256 {
		c := string([]byte{byte(n)})
		for _, s := range []string{c, "X" + c, c + "X", "X " + c + " Y", "module m" + c, "module m p(" + c + ").", "module m p() :- " + c, "module m type t = c" + c, "\"" + c + "\""} {
			checkAnyText(t, s)
		}
	}
}

// TestR1AnyTokens has texts of any tokens.
func TestR1AnyTokens(t *testing.T) {
	g := newGenerator(12)
	for range 20000 {
		checkAnyText(t, lex.Show(many(g, 0, 12, g.token)))
		checkAnyText(t, "module m "+lex.Show(many(g, 0, 12, g.token)))
		checkAnyText(t, "module m p() :- "+lex.Show(many(g, 0, 12, g.token)))
	}
}

// TestR1LongTexts has texts as long as they may be, of what opens, deepens or goes on.
func TestR1LongTexts(t *testing.T) {
	for _, s := range []string{"(", ")", "-", "not ", "if X then ", "if ", "X + ", "X.f", ".f", "1 ", "X == ", "c(", "(1, ", "module m ", "p(). ", "import a ", "- - ", "\"\" ++ ", "len(", "X, ", "or "} {
		most := strings.Repeat(s, 65536/len(s))
		for _, l := range []string{most, "module m " + most[len(s)*9:], "X + " + most[len(s)*4:], most[len(s):] + "X"} {
			if len(l) <= 65536 {
				checkAnyText(t, l)
			}
		}
	}
}

// lists are all lists in something, each with what is behind its end.
func lists(x reflect.Value) []reflect.Value {
	var l []reflect.Value
	switch x.Kind() {
	case reflect.Struct:
		for i := range x.NumField() {
			l = append(l, lists(x.Field(i))...)
		}
	case reflect.Slice:
		whole := x.Slice(0, x.Cap())
		if x.Cap() > 0 {
			l = append(l, whole)
		}
		for i := range whole.Len() {
			l = append(l, lists(whole.Index(i))...)
		}
	}
	return l
}

// checkApart requires that no two of some lists share memory.
func checkApart(t *testing.T, l []reflect.Value) {
	t.Helper()
	begins, ends := make([]uintptr, len(l)), make([]uintptr, len(l))
	for i, x := range l {
		begins[i] = x.Pointer()
		ends[i] = begins[i] + uintptr(x.Len())*x.Type().Elem().Size()
		for k := range i {
			if begins[i] < ends[k] && begins[k] < ends[i] {
				t.Fatalf("%v and %v share memory", x, l[k])
			}
		}
	}
}

// TestR3NewMemory has all lists of a result, and of the results of several calls, apart from one another, and overwrites them.
func TestR3NewMemory(t *testing.T) {
	g := newGenerator(13)
	for range 60 {
		want := g.module(3)
		s := textOfModule(g, &want)
		before := strings.Clone(s)
		first, second := moduleOf(t, s), moduleOf(t, s)
		checkApart(t, append(lists(reflect.ValueOf(first)), lists(reflect.ValueOf(second))...))
		for _, x := range lists(reflect.ValueOf(first)) {
			for i := range x.Len() {
				x.Index(i).SetZero()
			}
		}
		if third := moduleOf(t, s); !reflect.DeepEqual(second, want) || !reflect.DeepEqual(third, want) || s != before {
			t.Fatalf("%q: another result has changed", s)
		}
	}
	for range 300 {
		want := g.expr(5)
		s := textOfExpr(g, &want, 4)
		first, second := exprOf(t, s), exprOf(t, s)
		checkApart(t, append(lists(reflect.ValueOf(first)), lists(reflect.ValueOf(second))...))
	}
}

// TestR2TheTextAlone reads texts in many goroutines, between wrong ones: the results depend on the texts alone.
func TestR2TheTextAlone(t *testing.T) {
	g := newGenerator(14)
	var texts []string
	var modules []api.Module
	for range 40 {
		m := g.module(2)
		texts, modules = append(texts, textOfModule(g, &m)), append(modules, m)
	}
	var all sync.WaitGroup
	for n := range 8 {
		all.Go(func() {
			for i := range texts {
				i = (i*7 + n*5) % len(texts)
				checkRefusedAt(t, "module m p("+strings.Repeat("(", 64)+"^(", api.ErrDeep)
				if m, _, e := parse.Parse(texts[i]); e != api.OK || !reflect.DeepEqual(m, modules[i]) {
					t.Errorf("%q: %v", texts[i], e)
				}
			}
		})
	}
	all.Wait()
}
