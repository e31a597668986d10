package tree_test

import (
	"regexp"
	"slices"
	"strconv"
	"strings"
	"testing"

	"corollary/api"
	"corollary/tree"
)

func checkVars(t *testing.T, e api.Expr, want ...string) {
	t.Helper()
	if l := tree.Vars(e); !slices.Equal(l, want) {
		t.Errorf("Vars(%.200s): %q, not %q", textOf(e), l, want)
	}
}

func textOf(e api.Expr) string {
	s, _ := tree.Expr(e)
	return s
}

func TestP6_2Vars(t *testing.T) {
	x, y, z := variable("X"), variable("Y"), variable("Z")
	for _, e := range exprs(num(1), text("X"), truth(1), long("2"), anything(), tup(), cons("c"), tup(num(1), anything()), cons("c", text("X"), tup()), call("neg", num(1)), field("f", cons("c")), choice(truth(1), num(1), num(2)), api.Expr{}) {
		checkVars(t, e)
	}
	checkVars(t, x, "X")
	checkVars(t, tup(x, y), "X", "Y")
	checkVars(t, tup(y, x), "Y", "X")
	checkVars(t, tup(x, x, x), "X")
	checkVars(t, tup(y, x, y, z, x), "Y", "X", "Z")
	checkVars(t, tup(cons("c", z, tup(x, z)), y, cons("c", x)), "Z", "X", "Y")
	checkVars(t, choice(z, y, x), "Z", "Y", "X")
	checkVars(t, choice(num(1), tup(y, z), x), "Y", "Z", "X")
	checkVars(t, call("+", call("*", y, x), call("neg", z)), "Y", "X", "Z")
	checkVars(t, call("not", x), "X")
	checkVars(t, field("f", field("g", y)), "Y")
	checkVars(t, cons("c", anything(), x, anything(), y), "X", "Y")
	checkVars(t, tup(variable("X1"), variable("X"), variable("X_"), variable("XX"), variable("X")), "X1", "X", "X_", "XX")
}

// TestP6_2VarsOfAnything has what is no expression: all Vars in it count, but not those in the Args of a Var.
func TestP6_2VarsOfAnything(t *testing.T) {
	x, y := variable("X"), variable("Y")
	for kind := range 256 {
		e := api.Expr{Kind: uint8(kind), Name: "N", Value: api.Value{Kind: api.Text, S: "S"}, Args: exprs(y, tup(x, y))}
		if e.Kind == api.Var {
			checkVars(t, e, "N")
			checkVars(t, tup(x, e, y), "X", "N", "Y")
		} else {
			checkVars(t, e, "Y", "X")
			checkVars(t, api.Expr{Kind: uint8(kind), Args: exprs(x, e)}, "X", "Y")
		}
	}
	checkVars(t, tup(variable(""), variable("x"), variable("_"), variable(""), variable("a.b"), variable("\xff"), variable(strings.Repeat("X", 100))), "", "x", "_", "a.b", "\xff", strings.Repeat("X", 100))
	checkVars(t, variable(""), "")
	var want []string
	var l []api.Expr
	for n := range 3000 {
		s := "X" + strconv.Itoa(n)
		want, l = append(want, s), append(l, variable(s), variable(s), tup(variable(s)))
	}
	checkVars(t, tup(append(l, l...)...), want...)
}

// TestP6_2VarsDeep has a variable at the end of the depth that the document's limits allow.
func TestP6_2VarsDeep(t *testing.T) {
	checkVars(t, nestedExpr(1<<16, variable("X")), "X")
	checkVars(t, tup(variable("Y"), nestedExpr(1<<16-1, tup(variable("X"), variable("Y")).Args[0]), variable("Z")), "Y", "X", "Z")
}

// TestP6_2VarsAndTexts holds Vars against the texts of many expressions.
func TestP6_2VarsAndTexts(t *testing.T) {
	pattern := regexp.MustCompile(`"(?:[^"\\]|\\.)*"|\b[A-Z]\w*`)
	g := newGenerator(7)
	for range 20000 {
		e, s := g.expr(4)
		var want []string
		for _, found := range pattern.FindAllString(s, -1) {
			if found[0] != '"' && !slices.Contains(want, found) {
				want = append(want, found)
			}
		}
		checkVars(t, e, want...)
	}
}
