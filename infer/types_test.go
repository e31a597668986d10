package infer_test

import (
	"testing"

	"corollary/api"
)

// TestP11_1Literals has a literal of each Kind.
func TestP11_1Literals(t *testing.T) {
	checkBody(t, "X = true, Y = false", "X bool; Y bool")
	checkBody(t, "X = 1, Y = -9223372036854775808", "X int; Y int")
	checkBody(t, "X = 1b, Y = -10000000000000000000000b", "X big; Y big")
	checkBody(t, `X = "", Y = "a"`, "X text; Y text")
	checkBody(t, `b(true), n(1), g(1b), t("1")`, "")
	checkBodyRefused(t, "b(^1)", `n(^"1")`, "n(^true)", "n(^1b)", "g(^1)", "t(^1)", `b(^"true")`, `g(^"1b")`)
}

// TestP11_1Variables has variables that are alike, and known from elsewhere.
func TestP11_1Variables(t *testing.T) {
	checkBody(t, "X = Y", "X 'a; Y 'a")
	checkBody(t, "X = X", "X 'a")
	checkBody(t, "n(X), X = Y, Y = Z", "X int; Y int; Z int")
	checkBody(t, "X = Y, Y = Z, t(Z)", "X text; Y text; Z text")
	checkBody(t, "X = Y, Z = A, (Y == A), b(Z)", "X bool; Y bool; Z bool; A bool")
	checkBodyRefused(t, "n(X), t(^X)", "X = Y, n(X), Z = 1, t(^Y)", "n(X), ^X = true", "X = 1, ^X = 1b", "n(X), t(Y), ^X = Y", "^X = (X, 1)", "X = (Y, 1), ^Y = X")
}

// TestP11_1Any has it at each place of a pattern.
func TestP11_1Any(t *testing.T) {
	checkBody(t, "n(_), t(_), ln(_), u(_), nt(_, _)", "")
	checkBody(t, "ln(cons(_, cons(X, _))), tu((_, (_, Y)))", "X int; Y bool")
	checkBody(t, "not nt(_, X), not tu(_)", "X text")
}

// TestP11_1Tuples has them in expressions and in patterns, with none and with several parts.
func TestP11_1Tuples(t *testing.T) {
	checkBody(t, "X = (), u(X), u(())", "X tuple")
	checkBody(t, `X = (1, "a", Y, (Z, 1b), ())`, "X tuple(int, text, 'a, tuple('b, big), tuple); Y 'a; Z 'b")
	checkBody(t, "X = (Y, Y, Z), Z = (A, Y)", "X tuple('a, 'a, tuple('b, 'a)); Y 'a; Z tuple('b, 'a); A 'b")
	checkBody(t, "tu((X, Y)), not tu((_, (Z, A)))", "X int; Y tuple(text, bool); Z text; A bool")
	checkBody(t, "X = ("+repeated(16, "1")+"), X = ("+repeated(15, "1")+", Y)", "X tuple("+repeated(16, "int")+"); Y int")
	checkBodyRefused(t, "u(^(1, 1))", "tu(^())", "tu(^(1, 1, 1))", `tu(^(1, "a"))`, "X = (1, 1), ^X = (1, 1, 1)", "X = (), ^X = (1, 1)", `X = (1, "a"), ^X = ("a", 1)`, "n(^())", "n(^(1, 1))")
}

// TestP11_1Constructors has types with and without parameters, each constructor with its own unknown ones.
func TestP11_1Constructors(t *testing.T) {
	checkBody(t, `X = pt(1, "a"), pt(pt(Y, Z)), A = dot, B = (dot)`, "X pt; Y int; Z text; A dot; B dot")
	checkBody(t, "X = nil, Y = nil", "X list('a); Y list('b)")
	checkBody(t, "X = cons(1, nil), Y = cons(\"a\", cons(Z, A))", "X list(int); Y list(text); Z text; A list(text)")
	checkBody(t, "ln(cons(X, Y)), lt(cons(Z, cons(A, nil))), not ln(nil)", "X int; Y list(int); Z text; A text")
	checkBody(t, "X = pair(1, Y), A = pair(Y, X), B = pair(A, pair(nil, some(Y)))", "X pair(int, 'a); Y 'a; A pair('a, pair(int, 'a)); B pair(pair('a, pair(int, 'a)), pair(list('b), opt('a)))")
	checkBody(t, `X = named(1, "a", Y, cons(Z, A), "b"), Z = true`, "X named(bool); Y bool; Z bool; A list(bool)")
	checkBody(t, "X = ghost(1), Y = ghost(2), ((X, Y) == (Z, Z))", "X ghost('a); Y ghost('a); Z ghost('a)")
	checkBody(t, "X = cons(Y, X)", "X list('a); Y 'a")
	checkBodyRefused(t, `X = pt(^"a", "a")`, "X = pt(1, ^1)", "pt(pt(^true, _))", "pt(pt(_, ^nil))", `X = cons(1, ^cons("a", nil))`, "X = cons(1, cons(2, ^3))",
		"ln(^cons(_, cons(true, _)))", "ln(cons(1, ^cons(true, _)))", "X = cons(X, ^X)", "^X = cons(X, nil)", `X = named(1, "a", true, ^cons(1, nil), "b")`, `X = named(1, "a", true, nil, ^2)`,
		`X = named(1, "a", 1, nil, "a"), ^X = named(1, "a", "a", nil, "a")`, "ln(^pt(1, _))", "ln(^1)", "n(^nil)", "X = dot, ^X = nil")
}

// TestP11_1Calculations has + - * / % and neg: both are alike, and numbers.
func TestP11_1Calculations(t *testing.T) {
	for _, op := range []string{"+", "-", "*", "/", "%"} {
		checkBody(t, "X = 1 "+op+" 2, Y = 1b "+op+" 2b", "X int; Y big")
		checkBody(t, "n(X), Y = X "+op+" Z", "X int; Y int; Z int")
		checkBody(t, "n(X), Y = Z "+op+" X", "X int; Y int; Z int")
		checkBody(t, "Y = Z "+op+" X, g(Y)", "Y big; Z big; X big")
		checkBodyRefused(t, "X = 1 ^"+op+" 1b", "X = 1b ^"+op+" 1", `X = 1 ^`+op+` "a"`, `n(X), t(Y), (X ^`+op+` Y == 1)`, `X = "a" ^`+op+` "b"`, "X = (1, 2) ^"+op+" (1, 2)", "X = nil ^"+op+" nil", "X = Y ^"+op+" Z", "X = true ^"+op+" true", "t(Y), ^Y = 1 "+op+" 2")
	}
	checkBody(t, "n(X), Y = -X, Z = -(-A), g(A)", "X int; Y int; Z big; A big")
	checkBody(t, "X = -Y, g(X)", "X big; Y big")
	checkBodyRefused(t, `X = ^-"a"`, "X = ^-true", "X = ^-Y", "X = ^-nil", "X = ^-(1, 1)", "t(X), Z = ^-X")
}

// TestP11_1Texts has ++, whose arguments are texts each.
func TestP11_1Texts(t *testing.T) {
	checkBody(t, `X = "a" ++ Y ++ Z`, "X text; Y text; Z text")
	checkBodyRefused(t, `X = 1 ^++ "a"`, `X = "a" ^++ 1`, "n(X), Y = X ^++ X", "n(X), ^X = Y ++ Z", "n(X), Y = (Z ^++ X) ++ Z", "X = nil ^++ nil")
}

// TestP11_1Comparisons has them for types of all kinds.
func TestP11_1Comparisons(t *testing.T) {
	for _, op := range []string{"==", "!=", "<", "<=", ">", ">="} {
		checkBody(t, "n(X), X "+op+" Y, A = (B "+op+" \"a\")", "X int; Y int; A bool; B text")
		checkBody(t, "X "+op+" Y", "X 'a; Y 'a")
		checkBody(t, "X = (Y "+op+" Z), (Z "+op+" cons(1, A)), B = nil, (true "+op+" X)", "X bool; Y list(int); Z list(int); A list(int); B list('a)")
		checkBodyRefused(t, `1 ^`+op+` "a"`, "1 ^"+op+" 1b", "X = (1 ^"+op+" true)", "n(X), (X, 1) ^"+op+" (1, X, 1)", "(nil) ^"+op+" (dot)", "n(X), ^X = (1 "+op+" 2)", "X "+op+" Y, n(X), t(^Y)")
	}
}

// TestP11_1Connections has and, or, not: all are bool.
func TestP11_1Connections(t *testing.T) {
	for _, op := range []string{"and", "or"} {
		checkBody(t, "X = (Y "+op+" Z), A "+op+" B", "X bool; Y bool; Z bool; A bool; B bool")
		checkBodyRefused(t, "1 ^"+op+" true", "true ^"+op+" 1", "X = (nil ^"+op+" nil)", "n(X), X ^"+op+" X", "n(X), ^X = (Y "+op+" Z)")
	}
	checkBody(t, "X = not Y, not Z, not not A", "X bool; Y bool; Z bool; A bool")
	checkBodyRefused(t, "^not 1", "n(X), Y = not ^not X", "X = ^not ()", "n(X), ^X = not Y")
}

// TestP11_1Conversions has len, big and int.
func TestP11_1Conversions(t *testing.T) {
	checkBody(t, "X = len(Y), Z = big(A), B = int(C)", "X int; Y text; Z big; A int; B int; C big")
	checkBody(t, "X = big(len(Y)) + big(int(Z))", "X big; Y text; Z big")
	checkBodyRefused(t, "X = ^len(1)", "X = ^len(nil)", "X = ^big(1b)", `X = ^big("1")`, "X = ^int(1)", "X = ^int(true)", "t(X), ^X = len(X)", "n(X), ^X = big(Y)", "g(X), ^X = int(X)", "X = ^int(len(Y))", "X = ^len(len(Y))", "X = ^big(big(Y))")
}

// TestP11_1Choices has if.
func TestP11_1Choices(t *testing.T) {
	checkBody(t, "X = if Y then Z else A", "X 'a; Y bool; Z 'a; A 'a")
	checkBody(t, "X = if Y then Z else 1, A = if true then nil else B", "X int; Y bool; Z int; A list('a); B list('a)")
	checkBody(t, "X = if Y then 1b else Z", "X big; Y bool; Z big")
	checkBodyRefused(t, "X = ^if 1 then 2 else 3", `X = ^if true then 2 else "a"`, "n(X), Y = ^if X then 1 else 2", "t(X), ^X = if true then 1 else 2", "X = ^if true then (1, 2) else (1, true)", `X = if true then 1 else ^if true then 2 else "a"`, "X = ^if (1, 1) then 2 else true")
}

// TestP11_1Atoms has arguments of relations, also of those that are not inputs, and of negated ones.
func TestP11_1Atoms(t *testing.T) {
	checkBody(t, "nt(X, Y), none(), pnt(Z, A), pbp(B), png(C, D)", "X int; Y text; Z int; A text; B box(pt); C int; D big")
	checkBody(t, "not nt(X, Y), not none(), not pnt(Z, A), not bp(B)", "X int; Y text; Z int; A text; B box(pt)")
	for _, not := range []string{"", "not "} {
		checkBodyRefused(t, not+`nt(^"a", "a")`, not+"nt(1, ^1)", not+"nt(X, ^X)", not+"pnt(_, ^nil)", not+"png(X, ^X)", "X = 1, "+not+"t(^X)", not+"nt(1, _), "+not+"nt(_, ^1)")
	}
}

// TestP11_1Conditions has expressions that are literals: bool.
func TestP11_1Conditions(t *testing.T) {
	checkBody(t, "X, true, (Y), not Z", "X bool; Y bool; Z bool")
	checkBodyRefused(t, "^1", "X = 1, ^X", "^1 + 2", "^-1", `^"a" ++ "b"`, "^()", "^(true, true)", "^(nil)", "^if true then 1 else 2", "^len(\"a\")")
}

// TestP11_1Bindings has the variable and its expression.
func TestP11_1Bindings(t *testing.T) {
	checkBody(t, "X = 1, Y = X, X = Z", "X int; Y int; Z int")
	checkBodyRefused(t, `X = 1, ^X = "a"`, "n(X), ^X = len(Y) == 2", "X = (1, 2), ^X = 1", "X = Y, Y = 1, ^X = 1b")
}

// TestP11_1Heads has arguments of heads, which come after the body, and aggregates.
func TestP11_1Heads(t *testing.T) {
	checkTypes(t, `pnt(X, Y). pnt(1, "a"). pnt(X + 1, Y ++ "a") :- n(X). p(). ptu((X, Y)). pln(cons(X, nil)).`, "X int; Y text\n\nX int; Y text\n\nX int; Y text\nX int\n--")
	for _, agg := range []string{"min", "max"} {
		checkTypes(t, "pn("+agg+"(X)). pt2("+agg+"(Y)). pbp("+agg+"(Z)). pln("+agg+"(cons(A, nil))).", "X int\nY text\nZ box(pt)\nA int\n--")
		checkText(t, "pn("+agg+"(^true)).", api.ErrType)
		checkText(t, "pnt(1, "+agg+"(^X)) :- n(X).", api.ErrType)
	}
	checkTypes(t, "pn(sum(X)). pg(sum(Y)). png(sum(X + Y), sum(Z)).", "X int\nY big\nX int; Y int; Z big\n--")
	checkTypes(t, `pn(count(X)). pn(count(X)) :- t(X). png(count(nil), sum(1b)). pnt(count((X, Y)), Y). pn(count("a")).`, "X 'a\nX text\n\nX 'a; Y text\n\n--")
	for _, s := range []string{"pn(^true).", "pnt(1, ^1).", "pnt(X, ^X).", "pt2(^X) :- n(X).", "ptu(^(1, 1)).", `pln(cons(1, ^2)).`,
		"pg(sum(^1)).", "pt2(sum(^X)).", "pt2(sum(^X)) :- t(X).", "pb(sum(^true)).", "pln(sum(^nil)).", "pn(sum(^1b)).",
		"pg(count(^1b)).", "pb(count(^X)).", "pt2(count(^X)) :- t(X).", "png(1, count(^1)).", `pn(count(1 ^+ "a")).`, "pn(count(1 ^+ 1b)).", "pn(count(X ^+ Y)).", "pn(count(X^.v)).", "pn(count(pt(1, ^1)))."} {
		checkText(t, s, api.ErrType)
	}
}

// TestP11_1Example has the chapter's examples.
func TestP11_1Example(t *testing.T) {
	const s = "type list('a) = nil | cons(head: 'a, tail: list('a)) rel p(x: int, l: list(int)) input q(l: list(int)) "
	for _, x := range []struct{ text, want string }{
		{"p(X, L) :- q(L), L = cons(X, M).", "L list(int); X int; M list(int)\n--"},
		{"p(X, nil) :- X = 1 + 2.", "X int\n--"},
		{"p(X, Y) :- q(Y), Z = nil, X = 1.", "Y list(int); Z list('a); X int\n--"},
	} {
		if got := shownTypes(made(t, moduleOf(t, s+x.text))); got != x.want {
			t.Errorf("%s: %s", x.text, got)
		}
	}
	for _, x := range []string{`p(^"a", nil).`, "p(X, L) :- q(L), X = L^.head.", "p(1 ^+ 1b, nil)."} {
		m, at := marked(t, s+x)
		checkRefused(t, x, m, at, api.ErrType)
	}
}
