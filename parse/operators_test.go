package parse_test

import (
	"slices"
	"strings"
	"testing"

	"corollary/api"
)

// precedence are the binary operators as the chapter has them, the loosest first. A not is looser than the third ones.
func precedence() []string {
	return []string{" or ", " and ", " == != < <= > >= ", " ++ ", " + - ", " * / % "}
}

func isComparison(s string) bool { return strings.Contains(precedence()[2], " "+s+" ") }

// grouped is how tokens (operands, operators, not, and minus for a - before an operand) are printed as an expression: they are divided at the last one of the loosest operators. If there is none, it tells which token is not allowed.
func grouped(l []string, operators []string) (string, int) {
	switch {
	case len(l) == 1:
		return l[0], -1
	case len(operators) == 4 && l[0] == "not":
		s, wrong := grouped(l[1:], operators)
		if wrong >= 0 {
			return "", wrong + 1
		}
		return "(not " + s + ")", -1
	case len(operators) == 0:
		s, _ := grouped(l[1:], nil)
		return "neg(" + s + ")", -1
	}
	if len(operators) == 4 {
		if wrong := slices.IndexFunc(l, newMisplaced()); wrong >= 0 {
			return "", wrong
		}
	}
	for i := len(l) - 1; i >= 0; i-- {
		if !strings.Contains(operators[0], " "+l[i]+" ") {
			continue
		}
		left, wrong := grouped(l[:i], operators)
		if wrong >= 0 {
			return "", wrong
		}
		right, wrong := grouped(l[i+1:], operators[1:])
		if wrong >= 0 {
			return "", i + 1 + wrong
		}
		return "(" + left + " " + l[i] + " " + right + ")", -1
	}
	return grouped(l, operators[1:])
}

// newMisplaced tells, from the left, whether a token is a not, or the second comparison, where no looser operator is, and no not at the beginning.
func newMisplaced() func(string) bool {
	compared := false
	return func(s string) bool {
		if s == "not" || compared && isComparison(s) {
			return true
		}
		compared = compared || isComparison(s)
		return false
	}
}

// checkGrouped holds an expression of these tokens against how they are grouped.
func checkGrouped(t *testing.T, l ...string) {
	t.Helper()
	s := strings.ReplaceAll(strings.Join(l, " "), "minus", "-")
	want, wrong := grouped(l, precedence())
	if wrong < 0 {
		checkExpr(t, s, want)
		return
	}
	before := strings.ReplaceAll(strings.Join(l[:wrong], " ")+" ", "minus", "-")
	checkNoExpr(t, s, api.Pos{Line: 1, Col: 1 + len(before)}, api.ErrForm)
}

func TestP7_2GroupedByHand(t *testing.T) {
	for s, want := range map[string]string{
		"a or b or c": "((a or b) or c)", "a and b and c": "((a and b) and c)", "a ++ b ++ c": "((a ++ b) ++ c)", "a - b - c": "((a - b) - c)", "a - b + c": "((a - b) + c)", "a + b - c": "((a + b) - c)", "a / b / c": "((a / b) / c)", "a % b * c / d": "(((a % b) * c) / d)",
		"a or b and c": "(a or (b and c))", "a and b or c": "((a and b) or c)", "a and b == c": "(a and (b == c))", "a == b and c": "((a == b) and c)", "a == b ++ c": "(a == (b ++ c))", "a ++ b == c": "((a ++ b) == c)", "a ++ b + c": "(a ++ (b + c))", "a + b ++ c": "((a + b) ++ c)", "a + b * c": "(a + (b * c))", "a * b + c": "((a * b) + c)",
		"a or b and c == d ++ e + f * g": "(a or (b and (c == (d ++ (e + (f * g))))))", "a * b + c ++ d == e and f or g": "((((((a * b) + c) ++ d) == e) and f) or g)",
		"not a and b": "((not a) and b)", "not a or b": "((not a) or b)", "a and not b": "(a and (not b))", "a or not b and c": "(a or ((not b) and c))", "not a == b": "(not (a == b))", "not a + b < c * d and e": "((not ((a + b) < (c * d))) and e)", "not not a ++ b": "(not (not (a ++ b)))", "a and not not b == c or d": "((a and (not (not (b == c)))) or d)",
		"-A * B": "(neg(A) * B)", "-A + B": "(neg(A) + B)", "A * -B": "(A * neg(B))", "-A == -B": "(neg(A) == neg(B))", "not -A == -B": "(not (neg(A) == neg(B)))",
	} {
		checkExpr(t, s, want)
	}
	for _, s := range []string{
		"a == b ^== c", "a == b ^!= c", "a < b ^< c", "a <= b ++ c ^> d", "a >= b + c * d ^>= e", "not a == b ^== c", "not a == b and c == d ^== e", "a or b == c ^< d", "(a == b) == c ^== d", "f(a == b ^== c)", "a == (b == c ^== d)", "if a == b ^== c then d else e",
		"a == ^not b", "a + ^not b", "a * ^not b", "a ++ ^not b", "a < ^not b", "-^not a", "not a == ^not b", "a and b == ^not c", "not -^not a",
	} {
		checkNoExprAt(t, s, api.ErrForm)
	}
	checkExpr(t, "(a == b) == (c == d)", "((a == b) == (c == d))")
	checkExpr(t, "(a == b) == c", "((a == b) == c)")
	checkExpr(t, "a == (not b)", "(a == (not b))")
	checkExpr(t, "-(not a)", "neg((not a))")
}

// TestP7_2OperatorsSideBySide has each with each other one at its right, before each operand of which is a not, a -, both, or none.
func TestP7_2OperatorsSideBySide(t *testing.T) {
	before := [][]string{nil, {"not"}, {"minus"}, {"not", "not"}, {"minus", "minus"}, {"not", "minus"}}
	for _, first := range binary() {
		checkGrouped(t, "A", first, "B")
		for _, second := range binary() {
			for _, a := range before {
				for _, b := range before {
					for _, c := range before {
						checkGrouped(t, slices.Concat(a, []string{"A", first}, b, []string{"B", second}, c, []string{"C"})...)
					}
				}
			}
		}
	}
}

// TestP7_2ThreeOperators has each three of them.
func TestP7_2ThreeOperators(t *testing.T) {
	for _, first := range binary() {
		for _, second := range binary() {
			for _, third := range binary() {
				checkGrouped(t, "A", first, "B", second, "C", third, "D")
			}
		}
	}
}

// TestP7_2ManyOperators has many together, with and without not and - .
func TestP7_2ManyOperators(t *testing.T) {
	g := newGenerator(9)
	for range 20000 {
		var l []string
		for i := range 1 + g.IntN(9) {
			if i > 0 {
				l = append(l, pick(g, pick(g, binary()...), "and", "or", "+"))
			}
			l = append(l, pick(g, nil, nil, nil, nil, nil, []string{"not"}, []string{"minus"}, []string{"minus", "minus"})...)
			l = append(l, pick(g, "A", "b", "\"c\"", "()", "f(1)", "true"))
		}
		checkGrouped(t, l...)
	}
}
