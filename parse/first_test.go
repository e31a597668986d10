package parse_test

import (
	"strings"
	"testing"

	"corollary/api"
)

// wrong is a declaration in which there is an error, where the mark ^ is.
type wrong struct {
	marked string
	error  api.Errno
}

// wrongOnes are of all errors, of those that lex.Tokens doesn't return.
func wrongOnes() []wrong {
	open, deep := strings.Repeat("(", 64), "X"+strings.Repeat(" + X", 64)
	return []wrong{
		{"pub ^p().", api.ErrForm}, {"type t = ^int", api.ErrForm}, {"rel p(^int)", api.ErrForm}, {"p() :- nil ^== X.", api.ErrForm}, {"never n ^.", api.ErrForm}, {"^import a", api.ErrForm}, {"p(1 == 2 ^== 3).", api.ErrForm}, {"p() :- q(^-X).", api.ErrForm},
		{"p(1, ^9223372036854775808).", api.ErrOver}, {"p() :- q(^-9223372036854775809).", api.ErrOver}, {"never n :- X == ^9223372036854775808.", api.ErrOver},
		{"p(" + open + "^(X).", api.ErrDeep}, {"p() :- q(" + strings.Repeat("c(", 64) + "^().", api.ErrDeep}, {"rel p(x: " + strings.Repeat("t(", 64) + "t^(int)", api.ErrDeep}, {"never n :- X = " + strings.Repeat("not ", 64) + "^not X.", api.ErrDeep},
		{"p(^" + deep + ").", api.ErrDeep}, {"p(1, ^max(" + deep + ")).", api.ErrDeep}, {"p() :- ^" + deep + ".", api.ErrDeep}, {"never n :- X = ^" + deep + ".", api.ErrDeep}, {"type t = c(^" + strings.Repeat("t(", 64) + "t" + strings.Repeat(")", 64) + ")", api.ErrDeep},
		{"p() :- " + strings.Repeat("X, ", 12) + "^X.", api.ErrFull}, {"never n :- " + strings.Repeat("X, ", 12) + "^X.", api.ErrFull}, {strings.Repeat("type t = c ", 64) + "^type t = c", api.ErrFull}, {strings.Repeat("rel p() ", 64) + "^pub rel p()", api.ErrFull},
		{"p(" + strings.Repeat("1, ", 8) + "^1).", api.ErrForm}, {"type t = " + strings.Repeat("c | ", 16) + "^c", api.ErrForm}, {"p((" + strings.Repeat("1, ", 16) + "^1)).", api.ErrForm}, {"rel p(" + strings.Repeat("x: int, ", 8) + "^x: int)", api.ErrForm},
	}
}

// TestErrorsTheFirstOne has each two errors one after another: the first one from the left is returned.
func TestErrorsTheFirstOne(t *testing.T) {
	for _, first := range wrongOnes() {
		checkRefusedAt(t, "module m p(). "+first.marked, first.error)
		checkRefusedAt(t, "module m import a\np(). never n :- p().\n "+first.marked+" p(). rel p()", first.error)
		for _, second := range wrongOnes() {
			checkRefusedAt(t, "module m p(). "+first.marked+"\n"+strings.ReplaceAll(second.marked, "^", ""), first.error)
		}
	}
}

// TestErrorsInOneExpression has two errors within one another, or beside one another in the same one.
func TestErrorsInOneExpression(t *testing.T) {
	open := strings.Repeat("(", 64)
	for _, x := range []wrong{
		{"^9223372036854775808 _", api.ErrOver}, {"^_ 9223372036854775808", api.ErrForm}, {"^9223372036854775808 " + open + "(", api.ErrOver}, {open + "^( 9223372036854775808", api.ErrDeep}, {open + "^-_", api.ErrDeep}, {open + "^9223372036854775808(", api.ErrOver}, {open + "^_(", api.ErrForm},
		{"1 == ^9223372036854775808 == 1", api.ErrOver}, {"1 == 1 ^== 9223372036854775808", api.ErrForm}, {"(" + strings.Repeat("1, ", 16) + "^9223372036854775808", api.ErrForm}, {"(^9223372036854775808" + strings.Repeat(", 1", 16), api.ErrOver}, {"(" + strings.Repeat("1, ", 15) + "^9223372036854775808, 1)", api.ErrOver},
		{"f(1, ^_, 9223372036854775808)", api.ErrForm}, {"f(1, ^9223372036854775808, _)", api.ErrOver}, {"if ^9223372036854775808 then _ else _", api.ErrOver}, {"if X then ^_ else 9223372036854775808", api.ErrForm}, {"not " + open[1:] + "^(", api.ErrDeep}, {"^-9223372036854775809 _", api.ErrOver},
	} {
		checkNoExprAt(t, x.marked, x.error)
		checkRefusedAt(t, "module m p() :- X = "+x.marked, x.error)
	}
}
