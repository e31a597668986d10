package parse_test

import (
	"reflect"
	"strings"
	"testing"

	"corollary/api"
	"corollary/parse"
	"corollary/tree"
)

func words() []string {
	return strings.Fields("module import pub type input rel never not and or if then else true false count sum min max")
}

func reserved() []string {
	return append(words(), strings.Fields("neg len big int bool text tuple")...)
}

func signs() []string {
	return strings.Fields("( ) , . : = | < > + - * / % ' :- == != <= >= ++")
}

func binary() []string { return strings.Fields("or and == != < <= > >= ++ + - * / %") }

func functions() []string { return strings.Fields("neg len big int") }

func aggregates() []string { return strings.Fields("count sum min max") }

// brief is the beginning of a text, for a message.
func brief(s string) string { return s[:min(len(s), 300)] }

// posAt is the position behind so many bytes of a text.
func posAt(s string, offset int) api.Pos {
	before := s[:offset]
	return api.Pos{Line: 1 + strings.Count(before, "\n"), Col: offset - strings.LastIndexByte(before, '\n')}
}

// unmarked is a text without the marks ^ in it, and for each the position of what is next behind it, apart from blanks.
func unmarked(s string) (string, []api.Pos) {
	var plain strings.Builder
	var offsets []int
	for i, part := range strings.Split(s, "^") {
		if i > 0 {
			offsets = append(offsets, plain.Len())
		}
		plain.WriteString(part)
	}
	s = plain.String()
	var marks []api.Pos
	for _, offset := range offsets {
		for offset < len(s) && strings.Contains(" \t\n\r", s[offset:offset+1]) {
			offset++
		}
		marks = append(marks, posAt(s, offset))
	}
	return s, marks
}

// isZero tells whether there is nothing in something.
func isZero(x any) bool { return reflect.ValueOf(x).IsZero() }

// moduleOf is the module of a text that has one.
func moduleOf(t *testing.T, s string) api.Module {
	t.Helper()
	m, p, e := parse.Parse(s)
	if e != api.OK || p != (api.Pos{}) {
		t.Fatalf("Parse(%q): %v at %v", brief(s), e, p)
	}
	if e := tree.Check(m); e != api.OK {
		t.Fatalf("Parse(%q): it can't be printed: %v", brief(s), e)
	}
	return m
}

// exprOf is the expression of a text that has one.
func exprOf(t *testing.T, s string) api.Expr {
	t.Helper()
	x, p, e := parse.Expr(s)
	if e != api.OK || p != (api.Pos{}) {
		t.Fatalf("Expr(%q): %v at %v", brief(s), e, p)
	}
	return x
}

// checkModule requires that a text has the module, m, that is printed as these lines behind its name. What is printed shows all there is but for positions.
func checkModule(t *testing.T, s string, lines ...string) {
	t.Helper()
	m, p, e := parse.Parse(s)
	if e != api.OK || p != (api.Pos{}) {
		t.Errorf("Parse(%q): %v at %v", brief(s), e, p)
		return
	}
	want := strings.Join(append([]string{"module m"}, lines...), "\n") + "\n"
	if printed, e := tree.Print(m); e != api.OK || printed != want {
		t.Errorf("Parse(%q): %v\n%s\nnot\n%s", brief(s), e, brief(printed), brief(want))
	}
}

// checkExpr requires that a text has the expression that is printed so, wherever it stands.
func checkExpr(t *testing.T, s, want string) {
	t.Helper()
	x, p, e := parse.Expr(s)
	if e != api.OK || p != (api.Pos{}) {
		t.Errorf("Expr(%q): %v at %v", brief(s), e, p)
		return
	}
	if printed, e := tree.Expr(x); e != api.OK || printed != want {
		t.Errorf("Expr(%q): %v, %s, not %s", brief(s), e, brief(printed), brief(want))
	}
	checkModule(t, "module m p("+s+", sum("+s+")) :- X = "+s+".", "p("+want+", sum("+want+")) :- X = "+want+".")
}

// checkRefused requires that a text has no module, but an error at a position.
func checkRefused(t *testing.T, s string, want api.Pos, error api.Errno) {
	t.Helper()
	m, p, e := parse.Parse(s)
	if e != error || p != want || !isZero(m) {
		t.Errorf("Parse(%q): %v at %v, not %v at %v", brief(s), e, p, error, want)
	}
}

// checkNoExpr requires that a text has no expression, but an error at a position.
func checkNoExpr(t *testing.T, s string, want api.Pos, error api.Errno) {
	t.Helper()
	x, p, e := parse.Expr(s)
	if e != error || p != want || !isZero(x) {
		t.Errorf("Expr(%q): %v at %v, not %v at %v", brief(s), e, p, error, want)
	}
}

// checkRefusedAt requires that a text has no module, but an error where the mark ^ is.
func checkRefusedAt(t *testing.T, marked string, error api.Errno) {
	t.Helper()
	s, marks := unmarked(marked)
	checkRefused(t, s, marks[0], error)
}

// checkNoExprAt requires that a text has no expression, but an error where the mark ^ is.
func checkNoExprAt(t *testing.T, marked string, error api.Errno) {
	t.Helper()
	s, marks := unmarked(marked)
	checkNoExpr(t, s, marks[0], error)
}

// withoutPositions is something in memory of its own, without its positions.
func withoutPositions[T any](x T) T {
	return copyOf(reflect.ValueOf(&x).Elem()).Interface().(T)
}

func copyOf(x reflect.Value) reflect.Value {
	result := reflect.New(x.Type()).Elem()
	switch {
	case x.Type() == reflect.TypeFor[api.Pos]():
	case x.Kind() == reflect.Struct:
		for i := range x.NumField() {
			result.Field(i).Set(copyOf(x.Field(i)))
		}
	case x.Kind() == reflect.Slice && x.Len() > 0:
		result.Set(reflect.MakeSlice(x.Type(), x.Len(), x.Len()))
		for i := range x.Len() {
			result.Index(i).Set(copyOf(x.Index(i)))
		}
	case x.Kind() != reflect.Slice:
		result.Set(x)
	}
	return result
}

// alike tells whether two are the same, apart from positions, and from whether an empty list is nil.
func alike[T any](a, b T) bool {
	return reflect.DeepEqual(withoutPositions(a), withoutPositions(b))
}
