package tree_test

import (
	"math"
	"slices"
	"strings"
	"testing"

	"corollary/api"
	"corollary/tree"
	"corollary/value"
)

// shown is an expression with its text, and whether it stands in brackets before a point.
type shown struct {
	expr     api.Expr
	text     string
	brackets bool
}

// simple are expressions without arguments.
func simple() []shown {
	return []shown{
		{truth(1), "true", true}, {truth(0), "false", true}, {num(3), "3", true}, {num(-3), "-3", true}, {long("3"), "3b", true}, {long("-3"), "-3b", true}, {text("a"), `"a"`, true}, {text("X"), `"X"`, true},
		{variable("X"), "X", false}, {tup(), "()", false}, {cons("c"), "c", true}, {cons("m.c"), "m.c", true},
	}
}

// around are all kinds of expressions that have arguments, each with others at each place.
func around(x, y, z shown) []shown {
	l := []shown{
		{tup(x.expr, y.expr), "(" + x.text + ", " + y.text + ")", false}, {tup(x.expr, y.expr, z.expr), "(" + x.text + ", " + y.text + ", " + z.text + ")", false},
		{cons("c", x.expr), "c(" + x.text + ")", true}, {cons("m.c", x.expr, y.expr, z.expr), "m.c(" + x.text + ", " + y.text + ", " + z.text + ")", true},
		{call("not", x.expr), "(not " + x.text + ")", false}, {choice(x.expr, y.expr, z.expr), "(if " + x.text + " then " + y.text + " else " + z.text + ")", false},
	}
	for _, s := range functions() {
		l = append(l, shown{call(s, x.expr), s + "(" + x.text + ")", true})
	}
	for _, s := range binary() {
		l = append(l, shown{call(s, x.expr, y.expr), "(" + x.text + " " + s + " " + y.text + ")", false})
	}
	record := x.text
	if x.brackets {
		record = "(" + record + ")"
	}
	return append(l, shown{field("f", x.expr), record + ".f", false})
}

func TestP6_1Expressions(t *testing.T) {
	x := variable("X")
	for want, e := range map[string]api.Expr{
		"true": truth(1), "false": truth(0), "0": num(0), "-5": num(-5), "5b": long("5"), "-5b": long("-5"), `"a b"`: text("a b"), `""`: text(""), "X": x, "X_1": variable("X_1"), "()": tup(), "(X, 1)": tup(x, num(1)), "(X, (1, ()), X)": tup(x, tup(num(1), tup()), x),
		"nil": cons("nil"), "m.nil": cons("m.nil"), "cons(1, cons(X, nil))": cons("cons", num(1), cons("cons", x, cons("nil"))), "m.c(())": cons("m.c", tup()), "(X + 3)": call("+", x, num(3)), "((X + (1 * 2)) == -3)": call("==", call("+", x, call("*", num(1), num(2))), num(-3)), "(X - -5)": call("-", x, num(-5)), "(X ++ \"a\")": call("++", x, text("a")),
		"(not X)": call("not", x), "(not (not X))": call("not", call("not", x)), "neg(3)": call("neg", num(3)), "neg(neg(X))": call("neg", call("neg", x)), "len(\"a\")": call("len", text("a")), "big((X % 2))": call("big", call("%", x, num(2))), "int(1b)": call("int", long("1")),
		"X.f": field("f", x), "X.head.n": field("n", field("head", x)), "(3).f": field("f", num(3)), "(true).f": field("f", truth(1)), "(\"a\").f": field("f", text("a")), "(nil).f": field("f", cons("nil")), "(m.c).f": field("f", cons("m.c")), "(c(1)).f": field("f", cons("c", num(1))), "(neg(X)).f": field("f", call("neg", x)), "(len(X)).f.g": field("g", field("f", call("len", x))),
		"(X + 1).f": field("f", call("+", x, num(1))), "(not X).f": field("f", call("not", x)), "(1, 2).f": field("f", tup(num(1), num(2))), "().f": field("f", tup()), "(if X then 1 else 2).f": field("f", choice(x, num(1), num(2))), "X.nil": field("nil", x), "(nil).nil": field("nil", cons("nil")),
		"(if X then 3 else X)": choice(x, num(3), x), "(if (if X then X else X) then (1, 2) else nil)": choice(choice(x, x, x), tup(num(1), num(2)), cons("nil")),
	} {
		checkExpr(t, e, want)
	}
	checkExpr(t, api.Expr{Kind: api.Tup, Args: exprs(), Value: api.Value{L: []api.Value{}}}, "()")
	checkExpr(t, api.Expr{Kind: api.Var, Name: "X", Args: exprs(), Value: api.Value{L: []api.Value{}}}, "X")
}

// TestP6_1EachKindInEachOther has each kind of expression at each place in each other one, and that in each other one.
func TestP6_1EachKindInEachOther(t *testing.T) {
	x, y := shown{variable("Y"), "Y", false}, shown{cons("e"), "e", true}
	inner := append(simple(), around(x, y, x)...)
	for i, a := range inner {
		b, c := inner[(i+1)%len(inner)], inner[(i+2)%len(inner)]
		checkExpr(t, a.expr, a.text)
		for k, outer := range around(a, b, c) {
			checkExpr(t, outer.expr, outer.text)
			if (i+k)%3 == 0 {
				for _, outmost := range around(outer, a, outer) {
					checkExpr(t, outmost.expr, outmost.text)
				}
			}
			checkPrinted(t, outer)
		}
	}
}

// checkPrinted requires the text of an expression in heads and literals.
func checkPrinted(t *testing.T, x shown) {
	t.Helper()
	condition := x.text
	if x.expr.Kind == api.Make {
		condition = "(" + condition + ")"
	}
	r := api.Rule{Rel: "p", Args: exprs(x.expr, x.expr), Aggs: []string{"", "sum"}, Body: []api.Literal{cond(x.expr), bind("X", x.expr)}}
	n := never("n", bind("X", x.expr), cond(x.expr))
	checkText(t, api.Module{Rules: []api.Rule{r}, Nevers: []api.Never{n}}, "p("+x.text+", sum("+x.text+")) :- "+condition+", X = "+x.text+".", "never n :- X = "+x.text+", "+condition+".")
}

func TestP6_1Calls(t *testing.T) {
	x := variable("X")
	for _, s := range append(append(binary(), functions()...), "not") {
		right := 1
		if slices.Contains(binary(), s) {
			right = 2
		}
		for n := range 6 {
			e := call(s, times(n, x)...)
			switch {
			case n != right:
				checkNoExpr(t, s, e, api.ErrForm)
			case n == 2:
				checkExpr(t, e, "(X "+s+" X)")
			case s == "not":
				checkExpr(t, e, "(not X)")
			default:
				checkExpr(t, e, s+"(X)")
			}
		}
	}
	known := append(append(binary(), functions()...), "not")
	for _, s := range append(candidates(), strings.Fields("= ! | . , ( ) : :- ' === =! => =< <> ** // && || ^ ~ & -- +++ if then else sum count nil Neg NOT NOTE AND")...) {
		for n := range 4 {
			if !slices.Contains(known, s) {
				checkNoExpr(t, "a call of "+s, call(s, times(n, x)...), api.ErrForm)
			}
		}
	}
}

// TestP6_1NumbersOfArguments has each kind with each number of arguments.
func TestP6_1NumbersOfArguments(t *testing.T) {
	x := variable("X")
	for n := range 20 {
		l := times(n, x)
		list := strings.TrimSuffix(strings.Repeat("X, ", n), ", ")
		for _, c := range []struct {
			what string
			e    api.Expr
			ok   bool
			want string
		}{
			{"a literal", api.Expr{Kind: api.Lit, Value: api.Value{Kind: api.Int, N: 1}, Args: l}, n == 0, "1"}, {"a variable", api.Expr{Kind: api.Var, Name: "X", Args: l}, n == 0, "X"},
			{"a tuple", tup(l...), n == 0 || 2 <= n && n <= 16, "(" + list + ")"}, {"a field", field("f", l...), n == 1, "X.f"}, {"a choice", choice(l...), n == 3, "(if X then X else X)"},
			{"a constructor", cons("c", l...), n <= 8, strings.TrimSuffix("c("+list+")", "()")}, {"a constructor of a module", cons("m.c", l...), n <= 8, strings.TrimSuffix("m.c("+list+")", "()")},
		} {
			if c.ok {
				checkExpr(t, c.e, c.want)
				checkExpr(t, tup(c.e, x), "("+c.want+", X)")
			} else {
				checkNoExpr(t, c.what, c.e, api.ErrForm)
				checkNoExpr(t, c.what+" in a tuple", tup(x, c.e), api.ErrForm)
			}
			if c.e.Kind != api.Field && c.e.Kind != api.If {
				checkPattern(t, c.what, c.e, map[bool]api.Errno{true: api.OK, false: api.ErrForm}[c.ok])
			}
		}
		checkPattern(t, "anything with arguments", api.Expr{Kind: api.Any, Args: l}, map[bool]api.Errno{true: api.OK, false: api.ErrForm}[n == 0])
	}
}

// TestP6_1EveryKind has each number as a Kind, with whatever another one may need.
func TestP6_1EveryKind(t *testing.T) {
	x, one := variable("X"), api.Value{Kind: api.Int, N: 1}
	for kind := range 256 {
		k := uint8(kind)
		for i, e := range []api.Expr{{Kind: k}, {Kind: k, Value: one}, {Kind: k, Name: "X"}, {Kind: k, Args: exprs(x, x)}, {Kind: k, Name: "c"}, {Kind: k, Name: "c", Args: exprs(x, x)}, {Kind: k, Name: "+", Args: exprs(x, x)}, {Kind: k, Name: "f", Args: exprs(x)}, {Kind: k, Args: exprs(x, x, x)}} {
			want := ""
			switch [2]int{kind, i} {
			case [2]int{1, 1}:
				want = "1"
			case [2]int{2, 2}:
				want = "X"
			case [2]int{4, 0}:
				want = "()"
			case [2]int{4, 3}:
				want = "(X, X)"
			case [2]int{4, 8}:
				want = "(X, X, X)"
			case [2]int{5, 4}:
				want = "c"
			case [2]int{5, 5}:
				want = "c(X, X)"
			case [2]int{5, 7}:
				want = "f(X)"
			case [2]int{6, 6}:
				want = "(X + X)"
			case [2]int{7, 7}:
				want = "X.f"
			case [2]int{8, 8}:
				want = "(if X then X else X)"
			}
			if want != "" {
				checkExpr(t, e, want)
			} else {
				checkNoExpr(t, "another Kind", e, api.ErrForm)
				checkNoExpr(t, "another Kind within", call("not", e), api.ErrForm)
			}
			is := api.ErrForm
			if kind == 3 && i == 0 || want != "" && kind <= 5 {
				is = api.OK
			}
			checkPattern(t, "each Kind", e, is)
			checkPattern(t, "each Kind within", tup(x, e), is)
		}
	}
}

// TestP6_1FieldsOfOtherKinds has each kind with one more field that it does not have.
func TestP6_1FieldsOfOtherKinds(t *testing.T) {
	x := variable("X")
	values := []api.Value{{Kind: api.Int}, {Kind: api.Bool, N: 1}, {N: 1}, {N: -1}, {S: "a"}, {Kind: 9}, {L: []api.Value{{}}}, {Kind: api.Tuple, L: []api.Value{}}}
	for _, e := range append(exprs(x, tup(), tup(x, x), cons("c"), cons("c", x), call("+", x, x), call("not", x), call("neg", x), field("f", x), choice(x, x, x)), anything()) {
		for _, v := range values {
			wrong := e
			wrong.Value = v
			checkNoExpr(t, "a value", wrong, api.ErrForm)
			checkPattern(t, "a value", wrong, api.ErrForm)
			checkPattern(t, "a value within", cons("c", wrong), api.ErrForm)
		}
	}
	for _, e := range exprs(num(1), truth(0), text("a"), tup(), tup(x, x), choice(x, x, x), anything()) {
		for _, s := range []string{"X", "a", "_", "+", "not", " "} {
			wrong := e
			wrong.Name = s
			checkNoExpr(t, "a name", wrong, api.ErrForm)
			checkPattern(t, "a name", wrong, api.ErrForm)
			checkPattern(t, "a name within", tup(wrong, x), api.ErrForm)
		}
	}
}

// TestP6_1Values has values of each kind as literals: what is invalid, or has parts, is none.
func TestP6_1Values(t *testing.T) {
	nines := strings.Repeat("9", 200)
	for _, v := range []api.Value{
		{Kind: api.Bool}, {Kind: api.Bool, N: 1}, {Kind: api.Int}, {Kind: api.Int, N: math.MaxInt64}, {Kind: api.Int, N: math.MinInt64}, {Kind: api.Big, S: "0"}, {Kind: api.Big, S: "-1"}, {Kind: api.Big, S: nines}, {Kind: api.Big, S: "-" + nines}, {Kind: api.Int, L: []api.Value{}},
		{Kind: api.Text}, {Kind: api.Text, S: "a\"b\\c\nd\te\x00\x7f\xff\u00e4"}, {Kind: api.Text, S: strings.Repeat("a", 4096)}, {Kind: api.Text, S: "\xff"}, {Kind: api.Text, S: "true"}, {Kind: api.Text, S: "X"},
	} {
		checkExpr(t, lit(v), value.Show(v))
		checkExpr(t, tup(lit(v), lit(v)), "("+value.Show(v)+", "+value.Show(v)+")")
		checkPrinted(t, shown{lit(v), value.Show(v), true})
		checkPattern(t, value.Show(v), lit(v), api.OK)
	}
	checkExpr(t, text("a\"\xff\n\t\\\r~"), `"a\"\xff\n\t\\\x0d~"`)
	one := api.Value{Kind: api.Int, N: 1}
	for _, v := range []api.Value{
		{}, {N: 1}, {S: "a"}, {Kind: 7}, {Kind: 255}, {Kind: api.Bool, N: 2}, {Kind: api.Bool, N: -1}, {Kind: api.Bool, S: "a"}, {Kind: api.Bool, L: []api.Value{one, one}}, {Kind: api.Int, S: "1"}, {Kind: api.Int, L: []api.Value{one}}, {Kind: api.Int, N: 1, S: "1"},
		{Kind: api.Big}, {Kind: api.Big, S: "01"}, {Kind: api.Big, S: "-0"}, {Kind: api.Big, S: "1b"}, {Kind: api.Big, S: "a"}, {Kind: api.Big, S: "1", N: 1}, {Kind: api.Big, S: nines + "9"}, {Kind: api.Big, S: "-" + nines + "9"}, {Kind: api.Big, S: "1", L: []api.Value{one}},
		{Kind: api.Text, N: 1}, {Kind: api.Text, L: []api.Value{one, one}}, {Kind: api.Text, S: strings.Repeat("a", 4097)}, {Kind: api.Tuple}, {Kind: api.Tuple, L: []api.Value{one, one}}, {Kind: api.Tuple, L: []api.Value{one}}, {Kind: api.Cons, S: "nil"}, {Kind: api.Cons, S: "m.c", L: []api.Value{one}}, {Kind: api.Cons},
	} {
		checkNoExpr(t, "a value", lit(v), api.ErrForm)
		checkNoExpr(t, "a value within", tup(num(1), lit(v)), api.ErrForm)
		checkPattern(t, "a value", lit(v), api.ErrForm)
		checkPattern(t, "a value within", tup(num(1), lit(v)), api.ErrForm)
	}
}

func TestP6_1Patterns(t *testing.T) {
	x := variable("X")
	for _, e := range exprs(num(1), num(-1), truth(1), long("-1"), text("a"), x, anything(), tup(), tup(x, anything()), cons("c"), cons("m.c"), cons("c", anything()), cons("m.c", tup(anything(), num(1)), cons("c", x), x)) {
		checkPattern(t, "a pattern", e, api.OK)
		checkPattern(t, "a pattern within", tup(anything(), e), api.OK)
		checkPattern(t, "a pattern within", cons("c", anything(), e), api.OK)
	}
	for _, e := range exprs(call("+", x, x), call("not", x), call("neg", num(1)), call("neg", x), field("f", x), choice(x, x, x), tup(x), tup(call("-", x, x), x), cons("c", field("f", x)), cons("c", tup(x, choice(x, x, x))), cons("X"), variable("x"), variable("_"), api.Expr{}) {
		checkPattern(t, "no pattern", e, api.ErrForm)
		checkPattern(t, "no pattern within", tup(anything(), e), api.ErrForm)
		checkPattern(t, "no pattern within", cons("c", anything(), e), api.ErrForm)
	}
}

// TestP6_1NoAnyInExpressions has _ at each place in each kind of expression.
func TestP6_1NoAnyInExpressions(t *testing.T) {
	x, any0 := shown{expr: variable("X")}, shown{expr: anything()}
	checkNoExpr(t, "_", anything(), api.ErrForm)
	for _, l := range [][]shown{around(any0, any0, any0), around(x, any0, x), around(x, x, any0)} {
		for _, e := range l {
			if hasAny(e.expr) {
				checkNoExpr(t, "_ within", e.expr, api.ErrForm)
				checkNoExpr(t, "_ further within", tup(x.expr, e.expr), api.ErrForm)
			}
		}
	}
}

// hasAny tells whether there is a _ in an expression.
func hasAny(e api.Expr) bool { return e.Kind == api.Any || slices.ContainsFunc(e.Args, hasAny) }

// TestP6_1RandomExpressions holds Expr and Pattern against what the document says of each kind, for many expressions that are nearly right.
func TestP6_1RandomExpressions(t *testing.T) {
	g := newGenerator(6)
	valid, patterns := 0, 0
	for range 60000 {
		e := g.roughExpr(3)
		s, f := tree.Expr(e)
		switch is := isExpr(e); {
		case is && (f != api.OK || s == ""), !is && (f != api.ErrForm || s != ""):
			t.Errorf("%+v: %v, %q", e, f, s)
		case is:
			valid++
		}
		is := isPattern(e)
		if tree.Pattern(e) != is {
			t.Errorf("%+v: Pattern: %t", e, !is)
		}
		if is {
			patterns++
		}
	}
	if valid < 5000 || patterns < 5000 {
		t.Errorf("only %d expressions, %d patterns", valid, patterns)
	}
}

func isExpr(e api.Expr) bool {
	noValue, n := alike(e.Value, api.Value{}), len(e.Args)
	if slices.ContainsFunc(e.Args, func(part api.Expr) bool { return !isExpr(part) }) {
		return false
	}
	switch {
	case e.Kind == api.Call && noValue:
		return n == 2 && slices.Contains(binary(), e.Name) || n == 1 && (e.Name == "not" || slices.Contains(functions(), e.Name))
	case e.Kind == api.Field && noValue:
		return n == 1 && isPlain(e.Name)
	case e.Kind == api.If && noValue:
		return n == 3 && e.Name == ""
	}
	return isInBoth(e)
}

func isPattern(e api.Expr) bool {
	if slices.ContainsFunc(e.Args, func(part api.Expr) bool { return !isPattern(part) }) {
		return false
	}
	return isInBoth(e) || alike(e, api.Expr{Kind: api.Any})
}

func isInBoth(e api.Expr) bool {
	noValue, n := alike(e.Value, api.Value{}), len(e.Args)
	switch e.Kind {
	case api.Lit:
		return value.Check(e.Value) == api.OK && e.Value.Kind <= api.Text && e.Name == "" && n == 0
	case api.Var:
		return isVariable(e.Name) && noValue && n == 0
	case api.Tup:
		return e.Name == "" && noValue && (n == 0 || n >= 2 && n <= 16)
	case api.Make:
		return isLong(e.Name) && noValue && n <= 8
	}
	return false
}
