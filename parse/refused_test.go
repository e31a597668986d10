package parse_test

import (
	"strings"
	"testing"

	"corollary/api"
)

// samples are texts that have, all together, each place of the grammar.
func samples() []string {
	return []string{
		"module m",
		"module m import a import b type t = c",
		"module m pub type t ( ' a , ' b , ' c ) = c | d ( int , f : bool , a.b ) | e ( big , text , ' a , ( ) , ( int , t , ( ) ) , m.t ( int , ' a , t ) )",
		"module m type t ( ' a ) = c ( f : t ( t ( int ) ) ) | d pub input p ( ) rel q ( ) type u = d",
		"module m pub rel p ( x : int , y : ( ' a , t ( ( int , text ) , big ) ) , z : m.t ) input q ( x : ' a ) p ( ) .",
		"module m p ( ) . a.p ( X ) . p ( X , 1 , count ( X ) , - 1 ) . never n :- q ( ) . q ( ) . pub rel p ( )",
		"module m p ( max ( X + 1 ) , c ( X , c ) , len ( X ) ) :- q ( ) , a.q ( X ) , not q ( _ , X , 1 , - 1 ) , q ( - 1b , true , \"a\" , c , a.c ( 1 , _ ) ) , q ( ( ) , ( X , _ , ( ) ) ) .",
		"module m never n :- X = 1 , X == 1 , not X , not q ( ) , - X , ( X ) , ( ) , ( 1 , 2 , 3 ) , ( q ( X ) ) . never o :- not a.q ( X ) .",
		"module m p ( ) :- X = if X then Y else Z , if X == 1 then not Y else - Z , X .f .g , X = ( if X then 1 else 2 ) .f .",
		"module m p ( ) :- X = A or B and not C == D ++ E + F * - G .f .g , not not - - len ( X ) < 1 . p ( ) .",
		"module m p ( - - X , - 1 - - 1 , not X and not Y , ( X , ( Y ) ) , ( ( X ) ) , c ( ( 1 , 2 ) ) .f , int ( neg ( big ( 1 ) ) ) ) .",
		"module m p ( \"a\" ++ \"b\" , true , false , 1b , nil .f == ( ) .g , if nil then c else c ( 1 ) , A % B / C ) .",
	}
}

// expressions are those of their parts that are expressions.
func expressions() []string {
	return []string{
		"X", "- 1", "A or B and not C == D ++ E + F * - G .f .g", "not not - - len ( X ) < 1 and A", "if X then Y else if A == B then not C else - D", "( X , ( Y ) , ( ) , ( A , B ) )", "c ( ( 1 , 2 ) , a.c , c ( true ) ) .f .g", "int ( neg ( big ( - 1b ) ) )", "nil .f == ( ) .g", "\"a\" ++ ( if A then B else C )",
	}
}

// kindsOfTokens are tokens of all kinds, each word and sign among them.
func kindsOfTokens() []string {
	l := append(words(), signs()...)
	return append(l, "a", "a.b", "neg", "len", "int", "big", "bool", "text", "tuple", "a.int", "len.a", "X", "_", "1", "1b", "\"a\"", ".f", ".len", ".tuple")
}

// checkByTheGrammar holds a text against the chapter's grammar.
func checkByTheGrammar(t *testing.T, rules map[string]part, rule, s string) {
	t.Helper()
	want, error := refusal(rules, rule, s)
	switch {
	case error == api.OK && rule == "E":
		exprOf(t, s)
	case error == api.OK:
		moduleOf(t, s)
	case rule == "E":
		checkNoExpr(t, s, want, error)
	default:
		checkRefused(t, s, want, error)
	}
}

// TestErrorsATokenInEachPlace puts tokens of all kinds behind each beginning of the samples, with what is allowed nowhere, and with what goes on in the sample, behind them.
func TestErrorsATokenInEachPlace(t *testing.T) {
	t.Parallel()
	rules := newGrammar()
	visit := func(rule, sample string) {
		tokens := strings.Split(sample, " ")
		for i := range len(tokens) + 1 {
			before := strings.Join(tokens[:i], " ")
			for _, token := range kindsOfTokens() {
				checkByTheGrammar(t, rules, rule, before+"\n"+token+"\n module ")
				checkByTheGrammar(t, rules, rule, before+"\n"+token+" "+strings.Join(tokens[i:min(i+3, len(tokens))], " "))
			}
		}
	}
	for _, s := range samples() {
		visit("module", s)
	}
	for _, s := range expressions() {
		visit("E", s)
	}
}

// TestErrorsTheEndInEachPlace ends the samples behind each token.
func TestErrorsTheEndInEachPlace(t *testing.T) {
	rules := newGrammar()
	for _, s := range samples() {
		tokens := strings.Split(s, " ")
		for i := range tokens {
			checkByTheGrammar(t, rules, "module", strings.Join(tokens[:i], "\n ")+" # X .")
		}
		moduleOf(t, s)
	}
	for _, s := range expressions() {
		tokens := strings.Split(s, " ")
		for i := range tokens {
			checkByTheGrammar(t, rules, "E", strings.Join(tokens[:i], " \n")+"\n\n")
		}
		exprOf(t, s)
	}
}

// TestErrorsWithoutTokens has texts in which there are none.
func TestErrorsWithoutTokens(t *testing.T) {
	for _, s := range []string{"", " ", "\n", "\n\n\n", "# module m", "\t# a\n # b\n\n", "#"} {
		checkRefused(t, s, api.Pos{Line: 1, Col: 1}, api.ErrForm)
		checkNoExpr(t, s, api.Pos{Line: 1, Col: 1}, api.ErrForm)
	}
}

// TestErrorsAtTheEnd has texts that end too early, by hand.
func TestErrorsAtTheEnd(t *testing.T) {
	for _, s := range []string{
		"^module", "\n\n ^module # m\n", "module m ^import", "module m ^pub", "module m ^type", "module m pub ^type", "module m type ^t", "module m type t^(", "module m type t(^'", "module m type t('^a", "module m type t('a^,", "module m type t('a^)", "module m type t ^=", "module m type t = c ^|", "module m type t = c^(", "module m type t = c(^x", "module m type t = c(x^:", "module m type t = c(x: ^int", "module m type t = c(int^,", "module m type t = c(^'", "module m type t = c(^(", "module m type t = c(t^(", "module m type t = c((int^,", "module m type t = c((int^)",
		"module m ^rel", "module m ^input", "module m rel ^p", "module m rel p^(", "module m rel p(^x", "module m rel p(x^:", "module m rel p(x: ^int", "module m rel p(x: int^,", "module m rel p(x: t(int^)",
		"module m ^p", "module m p^(", "module m p(^X", "module m p(X^,", "module m p(^count", "module m p(count^(", "module m p(count(^X", "module m p(count(X^)", "module m p(^)", "module m p() ^:-", "module m p() :- ^q", "module m p() :- q^(", "module m p() :- q(^X", "module m p() :- q(X^,", "module m p() :- q(X^)", "module m p() :- q(X)^,", "module m p() :- ^not", "module m p() :- not ^q", "module m p() :- not q^(", "module m p() :- ^X", "module m p() :- X ^=", "module m p() :- X = ^1", "module m p() :- q(^-", "module m p() :- q(^(", "module m p() :- q((1^,", "module m p() :- q(^c", "module m p() :- q(c^(", "module m p() :- q(c(^_",
		"module m ^never", "module m never ^n", "module m never n ^:-", "module m never n :- ^X", "module m never n :- q(^)",
	} {
		checkRefusedAt(t, s, api.ErrForm)
		checkRefusedAt(t, s+" # X", api.ErrForm)
		checkRefusedAt(t, "\n\n  "+s+"\n\n\n", api.ErrForm)
	}
	for _, s := range []string{"^(", "(^X", "(X^,", "(X, ^Y", "c^(", "c(^X", "c(X^,", "^len", "len^(", "len(^X", "^-", "- ^-", "^not", "not ^not", "X ^+", "X ^==", "X ^and", "X ^or", "X ^++", "X ^*", "X ^-", "(X^.f", "^if", "if ^X", "if X ^then", "if X then ^Y", "if X then Y ^else", "-(^X"} {
		checkNoExprAt(t, s, api.ErrForm)
		checkNoExprAt(t, s+"\n#)", api.ErrForm)
		checkRefusedAt(t, "module m p("+s, api.ErrForm)
		checkRefusedAt(t, "module m never n :- X = "+s, api.ErrForm)
	}
}

// TestErrorsOfTokens has errors of lex.Tokens, which come before all others, wherever they are.
func TestErrorsOfTokens(t *testing.T) {
	long := strings.Repeat("a", 33)
	for _, x := range []struct {
		s     string
		error api.Errno
	}{
		{"^$", api.ErrForm}, {"^012", api.ErrForm}, {"^\"a", api.ErrForm}, {"^\x80", api.ErrForm}, {"^_a", api.ErrForm}, {"^1a", api.ErrForm}, {"^!", api.ErrForm}, {"^;", api.ErrForm}, {"^\x00", api.ErrForm},
		{"^" + long, api.ErrName}, {"^" + long + ".a", api.ErrName}, {"^a." + long, api.ErrName}, {"^A" + long, api.ErrName}, {"X^." + long, api.ErrName},
		{"^1" + strings.Repeat("0", 200), api.ErrOver}, {"-^1" + strings.Repeat("0", 200), api.ErrOver}, {"^1" + strings.Repeat("0", 200) + "b", api.ErrOver},
		{"^\"" + strings.Repeat("a", 4097) + "\"", api.ErrTooLarge},
	} {
		for _, before := range []string{"", "module m p(", "module m ", "module ) ", "X Y ", "9223372036854775808 ", strings.Repeat("(", 65), "module m " + strings.Repeat("import a ", 9)} {
			for _, behind := range []string{"", " $", " )", ").", " 9223372036854775808"} {
				checkRefusedAt(t, before+x.s+behind, x.error)
				checkNoExprAt(t, before+x.s+behind, x.error)
				checkRefusedAt(t, before+"\n# $\n "+x.s+behind, x.error)
			}
		}
	}
	whole := "module m" + strings.Repeat(" ", 65536-8)
	moduleOf(t, whole)
	exprOf(t, strings.Repeat("\n", 65535)+"X")
	for _, s := range []string{whole + " ", whole + "$", whole + "\n", strings.Repeat("$", 65537), strings.Repeat("(", 65537), strings.Repeat("X ", 65537)} {
		checkRefused(t, s, api.Pos{Line: 1, Col: 1}, api.ErrTooLarge)
		checkNoExpr(t, s, api.Pos{Line: 1, Col: 1}, api.ErrTooLarge)
	}
}
