package parse_test

import (
	"testing"

	"corollary/api"
)

// kindsOfPatterns are all that are printed as they are written, those with parts with one and with several.
func kindsOfPatterns() []string {
	return []string{
		"true", "false", "0", "1", "-1", "0b", "1b", "-1b", "\"\"", "\"a\"", "X", "_", "()", "(1, X)", "(_, _, Y)", "nil", "a.nil", "c(1)", "a.c(X)", "c(X, _, (1, 2), d)",
		"(c(X), ())", "c(())", "c(c(c(_)))", "((1, 2), (c, _))", "c(-1, -1b, (-1, -1))", "9223372036854775807", "-9223372036854775808",
	}
}

func TestP7_1KindsOfPatterns(t *testing.T) {
	for _, s := range kindsOfPatterns() {
		for _, want := range []string{
			"p() :- q(" + s + ").", "p() :- not q(" + s + ").", "p() :- q(X, " + s + ", " + s + ").", "p() :- q(c(" + s + ")).", "p() :- q(c(X, " + s + ")).", "p() :- q((" + s + ", " + s + ")).",
			"never n :- q(" + s + "), not q(_, " + s + ").",
		} {
			checkModule(t, "module m "+want, want)
		}
	}
}

// TestP7_1PatternsAreNoExpressions has what only an expression may be, or what neither may be.
func TestP7_1PatternsAreNoExpressions(t *testing.T) {
	for _, s := range []string{
		"^", "^,", "X ^+ 1", "X ^- 1", "1 ^== 1", "X^.f", "nil ^.f", "nil ^++ nil", "(1^)", "(X^)", "(c(1)^)", "((X, Y)^)", "(X^", "^not X", "^if X then Y else Z", "^-X", "^-(1)", "^-nil", "^- -1", "^--1", "^-_", "^-\"a\"", "^-true", "^-", "^-)", "^len(X)", "^neg(1)", "^int(X)", "^big(1)", "^bool", "^text", "^tuple", "^'a", "^.f", "^count(X)", "^+1", "X ^Y", "X ^(Y)", "_ ^(Y)", "1 ^(Y)", "X ^= 1", "X ^and Y",
		"c(^)", "c(X ^Y)", "c(X, ^)", "c(X^.)", "c(^, X)", "c(X)^(Y)", "(^, X)", "(X, ^)", "((), (1^))", "(()^)", "(X ^X)", "c ^c", "c^:", "(X, Y) ^.f", "^:", "^|", "^*",
	} {
		for _, before := range []string{"q(", "q(X, ", "not q(", "q(_), not a.q(", "q(c(", "q((1, c(X, "} {
			checkRefusedAt(t, "module m p() :- "+before+s+" |", api.ErrForm)
			checkRefusedAt(t, "module m never n :- "+before+s+" |", api.ErrForm)
		}
	}
}
