package parse_test

import (
	"math"
	"strings"
	"testing"

	"corollary/api"
	"corollary/lex"
)

// checkValue requires that a text is read as a value, as an expression and as a pattern, wherever it stands.
func checkValue(t *testing.T, s string, v api.Value) {
	t.Helper()
	want := api.Expr{Kind: api.Lit, Value: v}
	for _, l := range []string{s, "(" + s + ")", "\n" + s + " # a"} {
		if x := exprOf(t, l); !alike(x, want) {
			t.Errorf("Expr(%q): %+v, not %+v", brief(l), x, want)
		}
	}
	m := moduleOf(t, "module m p("+s+", "+s+") :- q("+s+", c("+s+")), not q(("+s+", "+s+")), X = "+s+", "+s+".")
	r := m.Rules[0]
	for _, x := range []api.Expr{r.Args[0], r.Args[1], r.Body[0].Args[0], r.Body[0].Args[1].Args[0], r.Body[1].Args[0].Args[0], r.Body[1].Args[0].Args[1], r.Body[2].Args[0], r.Body[3].Args[0]} {
		if !alike(x, want) {
			t.Errorf("Parse of %q: %+v, not %+v", brief(s), x, want)
		}
	}
}

func integer(n int64) api.Value { return api.Value{Kind: api.Int, N: n} }
func long(s string) api.Value   { return api.Value{Kind: api.Big, S: s} }

func TestP7_2Values(t *testing.T) {
	checkValue(t, "true", api.Value{Kind: api.Bool, N: 1})
	checkValue(t, "false", api.Value{Kind: api.Bool})
	nines := strings.Repeat("9", 200)
	for s, v := range map[string]api.Value{
		"0": integer(0), "-0": integer(0), "- 0": integer(0), "1": integer(1), "-1": integer(-1), "- # -\n 1": integer(-1), "10": integer(10), "-1234567890": integer(-1234567890),
		"9223372036854775807": integer(math.MaxInt64), "-9223372036854775807": integer(-math.MaxInt64), "-9223372036854775808": integer(math.MinInt64), "- 9223372036854775808": integer(math.MinInt64),
		"0b": long("0"), "-0b": long("0"), "- 0b": long("0"), "1b": long("1"), "-1b": long("-1"), "- 1b": long("-1"), "9223372036854775808b": long("9223372036854775808"), "-9223372036854775809b": long("-9223372036854775809"), nines + "b": long(nines), "-" + nines + "b": long("-" + nines),
	} {
		checkValue(t, s, v)
	}
	for _, s := range []string{"", "a", "X", "(", ")", "not", "-", "1", "#", "'", "if", "\"", "\\\n\t", "\x00\x7f\x80\xff", "\u00e4", strings.Repeat("a", 4096), strings.Repeat("\n", 1000)} {
		checkValue(t, lex.Quote(s), api.Value{Kind: api.Text, S: s})
	}
}

// TestErrorsIntegersOutsideTheirRange has them wherever an integer may be.
func TestErrorsIntegersOutsideTheirRange(t *testing.T) {
	for _, s := range []string{"^9223372036854775808", "^9223372036854775809", "^-9223372036854775809", "^- 9223372036854775809", "^- # -\n9223372036854775809", "^10000000000000000000", "^18446744073709551616", "^-18446744073709551616", "^" + strings.Repeat("9", 200), "^-" + strings.Repeat("9", 200)} {
		for _, before := range []string{"", "X + ", "-", "- -", "(", "(1, ", "c(", "c(1, ", "len(", "not ", "not -", "if ", "if X then ", "if X then Y else ", "X == ", "X - ", "1 -1 - "} {
			if strings.HasSuffix(before, "-") && !strings.HasPrefix(s, "^-") {
				continue // the - belongs to the number
			}
			for _, behind := range []string{"", " + 1", ".f", ")", "(", " == 1 == 2", " _"} {
				checkNoExprAt(t, before+s+behind, api.ErrOver)
				checkRefusedAt(t, "module m p("+before+s+behind, api.ErrOver)
				checkRefusedAt(t, "module m p(max("+before+s+behind, api.ErrOver)
				checkRefusedAt(t, "module m p() :- X = "+before+s+behind, api.ErrOver)
				checkRefusedAt(t, "module m never n :- "+before+s+behind, api.ErrOver)
			}
		}
		for _, before := range []string{"q(", "q(X, ", "not q(", "not a.q(_, ", "q((1, ", "q(c(", "q((", "q(c(1, "} {
			for _, behind := range []string{"", ")", " + 1", "(", " _"} {
				checkRefusedAt(t, "module m p() :- "+before+s+behind, api.ErrOver)
				checkRefusedAt(t, "module m never n :- "+before+s+behind, api.ErrOver)
			}
		}
	}
	checkNoExprAt(t, "X - ^9223372036854775808", api.ErrOver)
	checkNoExprAt(t, "X -^9223372036854775808", api.ErrOver)
	checkNoExprAt(t, "-9223372036854775808 -^9223372036854775808", api.ErrOver)
	checkNoExprAt(t, "(X)-^9223372036854775808", api.ErrOver)
	checkNoExprAt(t, "-(^9223372036854775808)", api.ErrOver)
	checkNoExprAt(t, "- -^-9223372036854775809", api.ErrOver)
	checkExpr(t, "--9223372036854775808", "neg(-9223372036854775808)")
	checkExpr(t, "X - -9223372036854775808", "(X - -9223372036854775808)")
	checkNoExprAt(t, "X ^9223372036854775808", api.ErrForm)
	checkNoExprAt(t, "X.f ^9223372036854775808b", api.ErrForm)
	checkRefusedAt(t, "module ^9223372036854775808", api.ErrForm)
	checkRefusedAt(t, "module m p() :- q(X ^9223372036854775808)", api.ErrForm)
	checkRefusedAt(t, "module m rel p(^9223372036854775808)", api.ErrForm)
}
