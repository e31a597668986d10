package tree_test

import (
	"math"
	"reflect"
	"slices"
	"strings"
	"testing"
	"unsafe"

	"corollary/api"
	"corollary/tree"
)

// answers are what all calls return for a module, and for the expressions in it.
type answers struct {
	check, printed api.Errno
	text           string
	same           bool
	texts          []string
	errors         []api.Errno
	patterns       []bool
	vars           [][]string
}

func answersFor(m api.Module) answers {
	var a answers
	a.check = tree.Check(m)
	a.text, a.printed = tree.Print(m)
	a.same = tree.Same(m, m)
	for _, e := range expressionsOf(m) {
		s, f := tree.Expr(e)
		a.texts, a.errors = append(a.texts, s), append(a.errors, f)
		a.patterns, a.vars = append(a.patterns, tree.Pattern(e)), append(a.vars, tree.Vars(e))
	}
	return a
}

func expressionsOf(m api.Module) []api.Expr {
	var l []api.Expr
	add := func(body []api.Literal) {
		for _, x := range body {
			l = append(l, x.Args...)
		}
	}
	for _, r := range m.Rules {
		l = append(l, r.Args...)
		add(r.Body)
	}
	for _, n := range m.Nevers {
		add(n.Body)
	}
	return l
}

// withMore has something wrong behind the end of each list.
func withMore[T any](x T) T {
	x = copied(x)
	putBehind(reflect.ValueOf(&x).Elem())
	return x
}

func putBehind(x reflect.Value) {
	switch x.Kind() {
	case reflect.Struct:
		for i := range x.NumField() {
			putBehind(x.Field(i))
		}
	case reflect.Slice:
		for i := range x.Len() {
			putBehind(x.Index(i))
		}
		n := x.Len()
		l := reflect.MakeSlice(x.Type(), n+1, n+1)
		reflect.Copy(l, x)
		switch behind := l.Index(n).Addr().Interface().(type) {
		case *string:
			*behind = "wrong"
		case *api.Expr:
			*behind = endless()
		}
		x.Set(l.Slice(0, n))
	}
}

// TestR3NothingIsReadBehindTheEnds has wrong things behind the ends of all lists, and finds all as it was.
func TestR3NothingIsReadBehindTheEnds(t *testing.T) {
	g := newGenerator(9)
	for n := range 300 {
		m, _ := g.module(3)
		if n == 0 {
			m = sample()
		}
		more := withMore(m)
		if !reflect.DeepEqual(answersFor(more), answersFor(m)) || !tree.Same(m, more) || !tree.Same(more, m) {
			t.Errorf("%d: what is behind the ends is read", n)
		}
	}
}

// TestR3NothingIsChanged compares all that was handed in, with what is behind the ends of lists, with a copy of it.
func TestR3NothingIsChanged(t *testing.T) {
	m := sample()
	fillEmpty(reflect.ValueOf(&m).Elem())
	for _, m := range []api.Module{m, ofRule(rule("p", exprs(variable("X"), call("+", variable("X")), anything()), cond(), bind("x", tup(num(1))))), {Rules: times(300, rule("p", exprs(num(1))))}} {
		untouched := copied(m)
		answersFor(m)
		if !reflect.DeepEqual(m, untouched) {
			t.Errorf("changed: %+v", m)
		}
		for i, e := range expressionsOf(m) {
			if all := e.Args[:cap(e.Args)]; !reflect.DeepEqual(all, expressionsOf(untouched)[i].Args[:cap(e.Args)]) {
				t.Errorf("changed behind the end: %+v", all)
			}
		}
	}
}

// TestR3NewMemory changes what was returned, and what is behind its end: nothing that is returned later shows that.
func TestR3NewMemory(t *testing.T) {
	e := tup(variable("X"), cons("c", variable("Y"), variable("Z")), variable("X"))
	first, second := tree.Vars(e), tree.Vars(e)
	for i := range first[:cap(first)] {
		first[:cap(first)][i] = "spoilt"
	}
	want := []string{"X", "Y", "Z"}
	if !slices.Equal(second, want) || !slices.Equal(tree.Vars(e), want) {
		t.Errorf("%q, %q", second, tree.Vars(e))
	}
	for _, s := range second[len(second):cap(second)] {
		if s != "" {
			t.Errorf("behind the end: %q", s)
		}
	}
}

// TestR3NoTextIsKept has texts whose memory is changed after the calls.
func TestR3NoTextIsKept(t *testing.T) {
	memory := []byte("X")
	name := unsafe.String(&memory[0], 1)
	l := tree.Vars(tup(variable(name), num(1)))
	alone, _ := tree.Expr(variable(name))
	s, _ := tree.Expr(tup(variable(name), text(name)))
	module, _ := tree.Print(ofNamed("m", rule("p", exprs(variable(name)))))
	memory[0] = 'Q'
	if !slices.Equal(l, []string{"X"}) || alone != "X" || s != `(X, "X")` || module != "module m\np(X).\n" {
		t.Errorf("%q, %s, %s, %s", l, alone, s, module)
	}
}

func ofNamed(name string, r api.Rule) api.Module {
	return api.Module{Name: name, Rules: []api.Rule{r}}
}

// TestR2TheSameAgain calls with other things in between.
func TestR2TheSameAgain(t *testing.T) {
	g := newGenerator(10)
	m := sample()
	want := answersFor(m)
	for range 200 {
		other, _ := g.module(2)
		e := g.roughExpr(4)
		answersFor(other)
		answersFor(ofRule(rule("p", exprs(e))))
		if got := answersFor(copied(m)); !reflect.DeepEqual(got, want) {
			t.Errorf("%+v, not %+v", got, want)
		}
	}
}

// TestR1AnyArguments has what is nested without an end, and any numbers and texts.
func TestR1AnyArguments(t *testing.T) {
	l := exprs(endless(), endlessTwice(), tup(num(1), endless()), cons("c", endlessTwice(), endlessTwice()), api.Expr{Kind: 9, Args: exprs(endless())}, api.Expr{Kind: api.Var, Name: "X", Args: exprs(endless())}, lit(endlessValue()), api.Expr{Kind: api.Tup, Value: endlessValue()}, nestedExpr(1000000, variable("X")), api.Expr{Kind: 255, Pos: api.Pos{Line: math.MinInt, Col: math.MaxInt}, Name: strings.Repeat("\xff", 100000), Value: api.Value{Kind: 255, N: math.MinInt64}})
	for i, e := range l {
		m := api.Module{Name: "m", Rules: []api.Rule{rule("p", exprs(e), atom("q", e), cond(e))}, Nevers: []api.Never{never("n", bind("X", e))}}
		a := answersFor(m)
		if a.check == api.OK || a.printed != a.check || a.text != "" || a.errors[0] == api.OK || a.texts[0] != "" || a.patterns[0] {
			t.Errorf("%d: %v, %v", i, a.check, a.errors)
		}
	}
	for _, x := range []api.Type{endlessType(), typ("list", endlessType()), nestedType(1000000, typ("int"))} {
		m := ofFieldType(x)
		answersFor(m)
		checkRefused(t, "an endless type", m, api.ErrDeep)
	}
}
