package parse_test

import (
	"testing"

	"corollary/api"
	"corollary/parse"
)

// kindsOfOperands are all that nothing else can be a part of without brackets, and how they are printed.
func kindsOfOperands() map[string]string {
	return map[string]string{
		"true": "true", "false": "false", "0": "0", "12": "12", "0b": "0b", "12b": "12b", "\"\"": "\"\"", "\"a\\n\"": "\"a\\n\"", "\"(\"": "\"(\"", "\"not\"": "\"not\"",
		"X": "X", "()": "()", "(X)": "X", "((X))": "X", "(1)": "1", "(-1)": "-1", "(X, Y)": "(X, Y)", "(1, X, (2, 3), ())": "(1, X, (2, 3), ())", "(X + 1, not Y)": "((X + 1), (not Y))", "(if X then Y else Z)": "(if X then Y else Z)", "(if X then Y else Z, 1)": "((if X then Y else Z), 1)",
		"nil": "nil", "a.nil": "a.nil", "c(X)": "c(X)", "a.c(1, X, c)": "a.c(1, X, c)", "c((X))": "c(X)", "c((X, Y))": "c((X, Y))", "c(())": "c(())", "c(X + 1, not Y)": "c((X + 1), (not Y))", "c(if X then Y else Z)": "c((if X then Y else Z))",
		"neg(X)": "neg(X)", "len(X)": "len(X)", "big(X)": "big(X)", "int(X)": "int(X)", "neg(1)": "neg(1)", "neg(-1)": "neg(-1)", "len(())": "len(())", "big((1, 2))": "big((1, 2))", "int(X + 1)": "int((X + 1))", "len(not X)": "len((not X))", "int(if X then Y else Z)": "int((if X then Y else Z))", "len(len(len(X)))": "len(len(len(X)))",
		"(not X)": "(not X)", "(X == Y)": "(X == Y)", "(X + Y)": "(X + Y)", "(-X)": "neg(X)",
	}
}

func TestP7_2KindsOfOperands(t *testing.T) {
	for s, want := range kindsOfOperands() {
		checkExpr(t, s, want)
		checkExpr(t, "("+s+")", want)
		checkExpr(t, "c("+s+", "+s+")", "c("+want+", "+want+")")
		checkExpr(t, s+" + "+s, "("+want+" + "+want+")")
		checkExpr(t, "if "+s+" then "+s+" else "+s, "(if "+want+" then "+want+" else "+want+")")
		checkExpr(t, "not "+s, "(not "+want+")")
		checkExpr(t, "not not "+s, "(not (not "+want+"))")
	}
}

// TestP7_2Minus has a - before each kind of operand: it belongs to a number, and is neg otherwise.
func TestP7_2Minus(t *testing.T) {
	for s, want := range kindsOfOperands() {
		minus := "neg(" + want + ")"
		if '0' <= s[0] && s[0] <= '9' {
			minus = "-" + want
			if want[0] == '0' {
				minus = want
			}
		}
		checkExpr(t, "-"+s, minus)
		checkExpr(t, "- # a\n "+s, minus)
		checkExpr(t, "- -"+s, "neg("+minus+")")
		checkExpr(t, "---"+s, "neg(neg("+minus+"))")
		checkExpr(t, "not -"+s, "(not "+minus+")")
		checkExpr(t, "X - -"+s, "(X - "+minus+")")
		checkExpr(t, "X - "+s, "(X - "+want+")")
		checkExpr(t, "X -"+s, "(X - "+want+")")
		checkExpr(t, "X--"+s, "(X - "+minus+")")
		checkExpr(t, "-"+s+" - "+s, "("+minus+" - "+want+")")
		checkExpr(t, "-"+s+" * -"+s, "("+minus+" * "+minus+")")
		checkExpr(t, "-("+s+")", "neg("+want+")")
		checkExpr(t, "-("+s+", 1)", "neg(("+want+", 1))")
		checkExpr(t, "c(-"+s+", -"+s+")", "c("+minus+", "+minus+")")
	}
	checkExpr(t, "3 - -5", "(3 - -5)")
	checkExpr(t, "-5", "-5")
	checkExpr(t, "-X", "neg(X)")
	checkExpr(t, "1 -1 -1b", "((1 - 1) - 1b)")
	checkExpr(t, "-1 -1 - -1", "((-1 - 1) - -1)")
	checkExpr(t, "(1)-1", "(1 - 1)")
	checkExpr(t, "f(1)-1", "(f(1) - 1)")
	checkExpr(t, "X.f-1", "(X.f - 1)")
	checkExpr(t, "\"a\"-1", "(\"a\" - 1)")
	checkExpr(t, "true-1", "(true - 1)")
	checkExpr(t, "nil-1", "(nil - 1)")
	checkExpr(t, "if -1 then -1 else -1", "(if -1 then -1 else -1)")
	checkExpr(t, "not -1 == -1 and -1 < - 1", "((not (-1 == -1)) and (-1 < -1))")
	for _, s := range []string{"- ^)", "-^+1", "-^*X", "- ^if X then Y else Z", "-^not X", "- -^not X", "-^or X", "-^_", "1 - ^not X", "1 + - ^not X", "-^.f", "-^'a"} {
		checkNoExprAt(t, s, api.ErrForm)
	}
}

// TestP7_2Fields has fields of each kind of operand.
func TestP7_2Fields(t *testing.T) {
	inBrackets := map[string]string{} // as they are printed before a point
	for s, want := range kindsOfOperands() {
		x, _, _ := parse.Expr(s)
		inBrackets[s] = want
		isFunction := x.Kind == api.Call && len(x.Args) == 1 && x.Name != "not"
		if x.Kind == api.Lit || x.Kind == api.Make || isFunction {
			inBrackets[s] = "(" + want + ")"
		}
	}
	for s, want := range inBrackets {
		s += " " // or a name would be continued
		checkExpr(t, s+".f", want+".f")
		checkExpr(t, s+".f.g.h", want+".f.g.h")
		checkExpr(t, s+".f .g\n.h", want+".f.g.h")
		checkExpr(t, "(("+s+").f).g", want+".f.g")
		checkExpr(t, s+".f + "+s+".g", "("+want+".f + "+want+".g)")
		checkExpr(t, "not "+s+".f", "(not "+want+".f)")
		if s[0] < '0' || '9' < s[0] {
			checkExpr(t, "-"+s+".f", "neg("+want+".f)")
		}
	}
	checkExpr(t, "X.head.n", "X.head.n")
	checkExpr(t, "-5.f", "(-5).f")
	checkExpr(t, "- 5b.f.g", "(-5b).f.g")
	checkExpr(t, "- -5.f", "neg((-5).f)")
	checkExpr(t, "-X.f.g", "neg(X.f.g)")
	checkExpr(t, "(-X).f", "(neg(X)).f")
	checkExpr(t, "(X + Y).f", "(X + Y).f")
	checkExpr(t, "X + Y.f", "(X + Y.f)")
	checkExpr(t, "(if X then Y else Z).f", "(if X then Y else Z).f")
	checkExpr(t, "if X then Y else Z.f", "(if X then Y else Z.f)")
	checkExpr(t, "(not X).f", "(not X).f")
	checkExpr(t, "nil.f", "nil.f")
	checkExpr(t, "nil.f.g", "(nil.f).g")
	checkExpr(t, "nil .f", "(nil).f")
	for _, s := range []string{"X ^. f", "X^.F", "X^.1", "X^.not", "X^._", "X^.(f)", "X.f.g^.not", "X.f^.", "X.f^.Y", "^.f", "1 + ^.f", "(^.f)", "X.f ^g", "X.f^(X)", "X^.len", "X^.neg", "X^.big", "X^.int", "X^.bool", "X^.text", "X^.tuple", "X.f^.int", "X^.len.f", "(X)^.text"} {
		checkNoExprAt(t, s, api.ErrForm)
	}
}

func TestP7_2Choices(t *testing.T) {
	checkExpr(t, "if X then 1 else 2", "(if X then 1 else 2)")
	checkExpr(t, "if X == Y then X + 1 else X and Y", "(if (X == Y) then (X + 1) else (X and Y))")
	checkExpr(t, "if if A then B else C then if D then E else F else if G then H else I", "(if (if A then B else C) then (if D then E else F) else (if G then H else I))")
	checkExpr(t, "if A then B else if C then D else E or F", "(if A then B else (if C then D else (E or F)))")
	checkExpr(t, "(if A then B else C) or F", "((if A then B else C) or F)")
	checkExpr(t, "if not A then -B else not C", "(if (not A) then neg(B) else (not C))")
	checkExpr(t, "if nil then c else c(1)", "(if nil then c else c(1))")
	for _, s := range []string{
		"if ^then", "if X ^else", "if X ^, Y", "if X then ^else", "if X then Y ^then", "if X then Y ^)", "if X then Y else ^)", "if X then Y else Z ^else", "if X then Y else Z ^then", "if X then Y else Z ^if", "^then", "^else", "(^then X)",
		"1 + ^if X then Y else Z", "X and ^if X then Y else Z", "not ^if X then Y else Z", "-^if X then Y else Z", "X == ^if X then Y else Z", "if X then Y else Z == 1 ^== 2", "if X ^= 1 then Y else Z",
	} {
		checkNoExprAt(t, s, api.ErrForm)
	}
}

func TestP7_2Functions(t *testing.T) {
	for _, f := range functions() {
		checkExpr(t, f+"(X)", f+"(X)")
		checkExpr(t, f+" # a\n ((X))", f+"(X)")
		checkExpr(t, "c("+f+"("+f+"(1)), "+f+"(()))", "c("+f+"("+f+"(1)), "+f+"(()))")
		checkExpr(t, f+"(X).f", "("+f+"(X)).f")
		checkExpr(t, "not "+f+"(X)", "(not "+f+"(X))")
		for _, s := range []string{f + "(^)", f + "(X^, Y)", f + "(X^,)", f + "(X ^Y)", f + "(^_)", f + "(X)^(Y)", f + " ^X", "^" + f + ".f", f + "^+ 1", f + "^)", "(" + f + "^)", "1 + " + f + "^ + 1", f + " ^" + f, "^" + f + ".a(X)", "^a." + f + "(X)", "^a." + f} {
			checkNoExprAt(t, s, api.ErrForm)
		}
		checkNoExpr(t, f, api.Pos{Line: 1, Col: 1}, api.ErrForm)
	}
}

func TestP7_2WhatIsNoExpression(t *testing.T) {
	for _, s := range []string{
		"^_", "^)", "^,", "^.", "^:", "^=", "^|", "^'a", "^:-", "^+ 1", "^* 1", "^== 1", "^and X", "^or X", "^< 1", "^++ X", "^/", "^module", "^import a", "^pub", "^type", "^input", "^rel", "^never", "^then", "^else", "^count(X)", "^sum", "^min", "^max", "^bool", "^text", "^tuple", "^tuple(X)", "^bool(X)",
		"X ^Y", "X ^1", "X ^nil", "X ^(Y)", "1 ^(Y)", "X ^\"a\"", "X ^true", "X ^_", "X ^not Y", "X ^if Y", "X^)", "X^,", "X ^= Y", "X ^:- Y", "X ^| Y", "X ^: Y", "X ^' Y", "X ^then", "nil ^nil", "nil ^X", "\"a\" ^\"b\"", "() ^()", "X + ^)", "X ^.", "X == ^== Y",
		"(X ^Y)", "(X, ^)", "(^,)", "(^, X)", "(X, Y ^Z)", "(X)^)", "(^_)", "(X.f^.", "(X ^.", "(X ^= Y)",
		"c(^)", "c(X, ^)", "c(^, X)", "c(X ^Y)", "c(X)^)", "c(X)^(Y)", "c(^)(X)", "c(^_)", "c(X, ^_)", "c ^X", "c^=", "a.c(^)", "a.b.c^(X)", "a.b .c^(X)",
	} {
		checkNoExprAt(t, s, api.ErrForm)
	}
}

func TestP7_2TheExamplesOfTheChapter(t *testing.T) {
	checkExpr(t, "X + 1 * Y == Z and not A", "(((X + (1 * Y)) == Z) and (not A))")
	checkExpr(t, "-5", "-5")
	checkExpr(t, "-X", "neg(X)")
	checkExpr(t, "3 - -5", "(3 - -5)")
	checkExpr(t, "not X == Y", "(not (X == Y))")
	checkExpr(t, "X.head.n", "X.head.n")
	checkNoExprAt(t, "1 == 2 ^== 3", api.ErrForm)
	checkNoExprAt(t, "^9223372036854775808", api.ErrOver)
	checkExpr(t, "-9223372036854775808", "-9223372036854775808")
}
