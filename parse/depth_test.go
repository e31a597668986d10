package parse_test

import (
	"slices"
	"strings"
	"testing"

	"corollary/api"
	"corollary/tree"
)

// opener is what stands around an inner one and opens, where the mark ^ is.
type opener struct {
	before, behind string
	deepens        bool
	where, inner   int // where it may stand, and where what is in it does
}

// What may stand there: everything, no if, or no not either.
const (
	anywhere = iota
	negated
	subtracted
)

func openersOfExprs() []opener {
	return []opener{
		{"^(", ")", false, subtracted, anywhere},
		{"^(1, ", ")", true, subtracted, anywhere}, {"^(", ", 1)", true, subtracted, anywhere}, {"^(1, ", ", 1, 2)", true, subtracted, anywhere},
		{"c^(", ")", true, subtracted, anywhere}, {"a.c^(1, ", ")", true, subtracted, anywhere}, {"c^(", ", 1)", true, subtracted, anywhere},
		{"len^(", ")", true, subtracted, anywhere}, {"neg^(", ")", true, subtracted, anywhere},
		{"^-", "", true, subtracted, subtracted}, {"^not ", "", true, negated, negated},
		{"^if ", " then 1 else 2", true, anywhere, anywhere}, {"^if X then ", " else 2", true, anywhere, anywhere}, {"^if X then 1 else ", "", true, anywhere, anywhere},
	}
}

func openersOfPatterns() []opener {
	return []opener{{"^(1, ", ")", true, anywhere, anywhere}, {"^(", ", _)", true, anywhere, anywhere}, {"c^(", ")", true, anywhere, anywhere}, {"a.c^(_, ", ", 1)", true, anywhere, anywhere}}
}

func openersOfTypes() []opener {
	return []opener{{"^(int, ", ")", true, anywhere, anywhere}, {"^(", ", t)", true, anywhere, anywhere}, {"t^(", ")", true, anywhere, anywhere}, {"a.t^(int, ", ", 'a)", true, anywhere, anywhere}}
}

// nested is an innermost text in several openers, with a mark where the last one opens, and its depth if that of the innermost is 1.
func nested(l []opener, innermost string) (string, int) {
	depth := 1
	var before, behind string
	for i, o := range l {
		begin := o.before
		if i < len(l)-1 {
			begin = strings.ReplaceAll(begin, "^", "")
		}
		before += begin
		behind = o.behind + behind
		if o.deepens {
			depth++
		}
	}
	return before + innermost + behind, depth
}

func exprPlaces() []string {
	return []string{"module m p(@).", "module m p(1, @) :- q().", "module m p() :- X = @.", "module m never n :- X, (@), X.", "module m p() :- X = 1, X == c, 1 == (@)."}
}

func patternPlaces() []string {
	return []string{"module m p() :- q(@).", "module m p() :- q(_, @), X.", "module m p() :- not q(@).", "module m never n :- q(), not a.q(@).", "module m never n :- q(1, @)."}
}

func typePlaces() []string {
	return []string{"module m type t('a) = c(@)", "module m type t = a | c(int, x: @) | d", "module m rel p(x: @)", "module m pub input p(x: int, y: @)"}
}

// checkNested holds what is read against how many are open, and how deep it is.
func checkNested(t *testing.T, place string, l []opener, innermost string) {
	t.Helper()
	s, depth := nested(l, innermost)
	plain := strings.ReplaceAll(s, "^", "")
	marked := func(s string) string { return strings.ReplaceAll(place, "@", s) }
	switch {
	case len(l) > api.MaxDepth:
		checkRefusedAt(t, marked(s), api.ErrDeep)
	case depth > api.MaxDepth:
		checkRefusedAt(t, marked("^"+plain), api.ErrDeep)
	default:
		moduleOf(t, marked(plain))
	}
}

// TestErrorsOpen has as many open as may be, and one more, of each kind that opens, wherever it may stand.
func TestErrorsOpen(t *testing.T) {
	for _, n := range []int{62, 63, 64, 65} {
		for _, o := range openersOfExprs() {
			for _, place := range exprPlaces()[:3] { // the others open themselves
				checkNested(t, place, slices.Repeat([]opener{o}, n), "X")
				checkNested(t, place, slices.Concat(slices.Repeat([]opener{openersOfExprs()[0]}, n-1), []opener{o}), "X")
			}
		}
		for _, o := range openersOfPatterns() {
			for _, place := range patternPlaces() {
				checkNested(t, place, slices.Repeat([]opener{o}, n), "_")
			}
		}
		for _, o := range openersOfTypes() {
			for _, place := range typePlaces() {
				checkNested(t, place, slices.Repeat([]opener{o}, n), "'a")
			}
		}
	}
}

// TestErrorsOpenAmongOneAnother has those of different kinds.
func TestErrorsOpenAmongOneAnother(t *testing.T) {
	g := newGenerator(10)
	for range 4000 {
		where := anywhere
		var l []opener
		for range 60 + g.IntN(6) {
			o := pick(g, openersOfExprs()...)
			for o.where < where {
				o = pick(g, openersOfExprs()...)
			}
			if g.chance(3) {
				o = openersOfExprs()[0] // so that they are not too deep
			}
			l, where = append(l, o), o.inner
		}
		checkNested(t, pick(g, exprPlaces()[:3]...), l, "X")
		many := func(openers []opener) []opener {
			return many(g, 60, 65, func() opener { return pick(g, openers...) })
		}
		checkNested(t, pick(g, patternPlaces()...), many(openersOfPatterns()), "1")
		checkNested(t, pick(g, typePlaces()...), many(openersOfTypes()), "int")
	}
}

// TestP7_1WhatDoesNotOpen has as many open as may be within what doesn't open, or behind it.
func TestP7_1WhatDoesNotOpen(t *testing.T) {
	in := func(open, innermost string) string { // as many as may be
		return strings.Repeat(open, 63) + innermost + strings.Repeat(")", 63)
	}
	check := func(place, most, tooMany string) {
		moduleOf(t, strings.ReplaceAll(place, "@", most))
		checkRefusedAt(t, strings.ReplaceAll(place, "@", tooMany), api.ErrDeep)
	}
	for _, place := range []string{"module m p(@).", "module m p(count(@)).", "module m p(X, max(@), @) :- X = @, @.", "module m never n :- @, X = @, not q(), q(X), @."} {
		check(place, in("(", "(X)"), in("(", "(^(X))"))
		check(place, in("(", "(- 1)"), in("(", "(^- X)"))
	}
	for _, place := range patternPlaces() {
		check(place, in("c(", "()"), in("c(", "c(^())"))
		check(place, in("c(", "- 1"), in("c(", "(1, ^(1, 2))"))
	}
	for _, place := range typePlaces() {
		check(place, in("t(", "()"), in("t(", "t(^())"))
		check(place, in("t(", "int"), in("t(", "(int, ^())"))
	}
	for _, s := range []string{"not ", "-"} { // an expression's, which opens
		check("module m p() :- "+s+"@.", in("(", "X"), in("(", "^(X)"))
	}
}

// TestP7_2WhatIsClosed has many that open one after another, when all but one are open.
func TestP7_2WhatIsClosed(t *testing.T) {
	parts := []string{"(X)", "c(X)", "(1, 2)", "()", "len(X)", "not X", "-X", "if X then Y else Z", "- X + 1", "not X and Y", "-X.f", "not X == 1", "c(1, 2, 3)", "(X) + (Y) * (Z)", "(X).f"}
	part := strings.Join(parts, ", ")
	exprOf(t, strings.Repeat("(", 62)+"("+part+")"+strings.Repeat(")", 62))
	for _, s := range parts {
		if marked := strings.NewReplacer("(", "^(", "-", "^-", "not", "^not", "if", "^if").Replace(s); strings.Count(marked, "^") > 0 {
			checkNoExprAt(t, strings.Repeat("(", 63)+"(1, "+marked, api.ErrDeep)
		}
		exprOf(t, strings.Repeat("(", 62)+"(1, "+s+", "+s+")"+strings.Repeat(")", 62))
	}
	closed := "((), (), (), ())" + strings.Repeat(")", 62)
	moduleOf(t, "module m p() :- q("+strings.Repeat("c(", 62)+closed+").")
	moduleOf(t, "module m rel p(x: "+strings.Repeat("t(", 62)+closed+")")
}

// TestErrorsWhereAllAreOpen has other errors, and none, when as many are open as may be.
func TestErrorsWhereAllAreOpen(t *testing.T) {
	open, closed := strings.Repeat("(", 64), strings.Repeat(")", 64)
	for _, s := range []string{"X", "1", "-1", "- 1b", "nil", "a.nil", "\"a\"", "true", "X + 1", "X.f", "1 - 1", "X - -1", "1 == -1 and true"} {
		exprOf(t, open+s+closed)
	}
	for _, s := range []string{"^(", "c^(", "c^()", "len^(", "len^()", "^-X", "^-", "^-)", "^- -1", "^not", "^not )", "^if", "^if )", "X + ^(", "X == ^-X", "X - ^-X", "X and ^not Y", "X or c^(", "1 -^(1)", "-1 -^(1)", "-1 + neg^(1)"} {
		checkNoExprAt(t, open+s, api.ErrDeep)
	}
	for _, s := range []string{"len ^X", "len ^+", "len ^)", "neg ^-X", "X ^(", "1 ^(", "X + ^not Y", "X * ^if Y", "X == ^not", "^then", "^_", "X ^not", "X ^if", "\"a\" ^(", "^.f", "^+ (", "X^.len", "^tuple(", "len ^not"} {
		checkNoExprAt(t, open+s, api.ErrForm)
	}
	checkNoExprAt(t, open+"^-9223372036854775809", api.ErrOver)
	pattern := "module m p() :- q(" + strings.Repeat("c(", 64)
	for _, s := range []string{"^(", "c^(", "1, ^()", "1, c^("} {
		checkRefusedAt(t, pattern+s, api.ErrDeep)
	}
	for _, s := range []string{"^-X", "^- (", "X ^(", "^not", "_ ^(", "1 ^(", "^len(", "^if"} {
		checkRefusedAt(t, pattern+s, api.ErrForm)
	}
	typ := "module m rel p(x: " + strings.Repeat("t(", 64)
	for _, s := range []string{"^(", "t^(", "int, ^()", "'a, a.t^("} {
		checkRefusedAt(t, typ+s, api.ErrDeep)
	}
	for _, s := range []string{"int^(", "'a^(", "'^(", "^neg(", "^X"} {
		checkRefusedAt(t, typ+s, api.ErrForm)
	}
}

// deepened are texts that are made deeper by one each time, without a bracket that stays open.
func deepened() map[string]func(s string) string {
	l := map[string]func(string) string{
		"field":     func(s string) string { return s + ".f" },
		"fields":    func(s string) string { return s + " .f" },
		"brackets":  func(s string) string { return "(" + s + ").f" },
		"tuple":     func(s string) string { return "(" + s + ", 1)" },
		"made":      func(s string) string { return "c(1, " + s + ")" },
		"function":  func(s string) string { return "big(" + s + ")" },
		"not":       func(s string) string { return "not " + s },
		"neg":       func(s string) string { return "-" + s },
		"condition": func(s string) string { return "if X then Y else " + s },
	}
	for _, operator := range binary() {
		if !isComparison(operator) {
			l[operator] = func(s string) string { return s + " " + operator + " 1" }
		}
	}
	return l
}

// TestErrorsDepth has expressions that are as deep as they may be, and deeper.
func TestErrorsDepth(t *testing.T) {
	for what, deepen := range deepened() {
		s := "X"
		for depth := 1; depth <= 64; depth++ {
			exprOf(t, s)
			s = deepen(s)
		}
		checkNoExprAt(t, "^"+s, api.ErrDeep)
		checkNoExprAt(t, " \n# a\n\t ^"+s+" # a", api.ErrDeep)
		if what == "neg" || what == "not" || what == "condition" {
			continue // as many are open as may be
		}
		if what != "brackets" && what != "tuple" && what != "made" && what != "function" {
			checkNoExprAt(t, "^("+s+")", api.ErrDeep)
			checkNoExprAt(t, "^(1, "+s+")", api.ErrDeep)
			checkNoExprAt(t, "^c("+s+")", api.ErrDeep)
			checkNoExprAt(t, "^if Y then 1 else "+s, api.ErrDeep)
			checkRefusedAt(t, "module m p(1, sum(1), ^max("+s+")).", api.ErrDeep)
			for range 1000 {
				s = deepen(s)
			}
			checkNoExprAt(t, "^"+s, api.ErrDeep)
		}
	}
	sum := "1" + strings.Repeat(" + 1", 62)
	exprOf(t, sum+" == "+sum)
	exprOf(t, "c("+sum+", "+sum+", ("+sum+"))")
	checkNoExprAt(t, "^"+sum+" + 1 == 1", api.ErrDeep)
	checkNoExprAt(t, "^1 == "+sum+" + 1", api.ErrDeep)
	checkNoExprAt(t, "^c(1, ("+sum+" + 1), 1)", api.ErrDeep)
	checkNoExprAt(t, "^if 1 then "+sum+" + 1 else 2", api.ErrDeep)
}

// TestErrorsPlacesOfDepth has what is one too deep wherever it may stand: it is an error there, where it begins.
func TestErrorsPlacesOfDepth(t *testing.T) {
	field, sum := "X"+strings.Repeat(".f", 64), "1"+strings.Repeat(" + 1", 64)
	for _, deep := range []string{field, sum, "(" + field + ")", "(" + sum + ") + 1", "-1" + strings.Repeat(" - 1", 64), strings.Repeat("c(", 64) + "1" + strings.Repeat(")", 64)} {
		for _, place := range []string{"p(^@).", "p(1, ^ @).", "p(^count(@)).", "p(1, ^sum # a\n( @ )).", "p() :- X = ^@.", "p() :- q(), X = ^ @, r().", "never n :- X = ^@.", "p() :- (1 + 1).f, X = ^@."} {
			for _, behind := range []string{"", " p(", " )", " module"} {
				checkRefusedAt(t, "module m "+strings.ReplaceAll(place, "@", deep)+behind, api.ErrDeep)
			}
		}
		if strings.HasPrefix(deep, "c(") {
			continue // it would be an atom
		}
		for _, place := range []string{"p() :- ^@.", "p() :- q(), ^@, r().", "never n :- ^@.", "never n :- X, ^ @."} {
			checkRefusedAt(t, "module m "+strings.ReplaceAll(place, "@", deep), api.ErrDeep)
		}
	}
	pattern := strings.Repeat("c(", 64) + "_" + strings.Repeat(")", 64)
	for _, place := range patternPlaces() {
		checkRefusedAt(t, strings.ReplaceAll(place, "@", "^"+pattern), api.ErrDeep)
		checkRefusedAt(t, strings.ReplaceAll(place, "@", "^"+pattern+" module"), api.ErrDeep)
	}
	typ := strings.Repeat("t(", 64) + "'a" + strings.Repeat(")", 64)
	for _, place := range typePlaces() {
		checkRefusedAt(t, strings.ReplaceAll(place, "@", "^"+typ), api.ErrDeep)
		checkRefusedAt(t, strings.ReplaceAll(place, "@", "^ "+typ+" module"), api.ErrDeep)
	}
}

// TestErrorsDepthAtItsEnd has what is too deep and goes on: it is an error when it is complete, after the errors in it and before those behind it.
func TestErrorsDepthAtItsEnd(t *testing.T) {
	deep := "X" + strings.Repeat(".f", 64)
	inPlace := func(s string) string { return strings.ReplaceAll(s, "@", deep) }
	for _, s := range []string{"^@ X", "^@ )", "^@ _", "^@ 1", "^@ if", "^@ not", "^@ then", "^@ == 1 == 2", "^1 == @ == 2"} {
		checkNoExprAt(t, inPlace(s), api.ErrDeep)
	}
	for _, s := range []string{"(@ ^X", "(@, ^)", "(@, 1 ^X)", "c(@ ^_", "@ + ^)", "@ ^+", "@ + ^not X", "@ and ^if", "@^.len", "if @ ^else", "if X then @ ^then", "(@ == 1 ^== 2)"} {
		checkNoExprAt(t, inPlace(s), api.ErrForm)
	}
	checkNoExprAt(t, deep+" + ^9223372036854775808", api.ErrOver)
	checkNoExprAt(t, deep+" + "+strings.Repeat("(", 64)+"^(", api.ErrDeep)
	for _, s := range []string{"p(^@ X", "p(^@", "p(1, ^@ .", "p() :- X = ^@ X", "p() :- X = ^@ = 1", "p() :- ^@ = 1", "p() :- ^@ Y", "p(^max(@) X", "p(^max(@)"} {
		checkRefusedAt(t, "module m "+inPlace(s), api.ErrDeep)
	}
	for _, s := range []string{"p(max(@ ^X", "p(max(@ ^, X))", "p(max(@ ^.", "p(max((@^)", "p(max((@, 1^)"} {
		checkRefusedAt(t, "module m "+inPlace(s), api.ErrForm)
	}
	pattern := strings.Repeat("c(", 64) + "_" + strings.Repeat(")", 63)
	checkRefusedAt(t, "module m p() :- q("+pattern+" ^X", api.ErrForm)
	checkRefusedAt(t, "module m p() :- q(^"+pattern+") X", api.ErrDeep)
	typ := strings.Repeat("t(", 64) + "t" + strings.Repeat(")", 63)
	checkRefusedAt(t, "module m rel p(x: "+typ+" ^X", api.ErrForm)
	checkRefusedAt(t, "module m rel p(x: ^"+typ+") X", api.ErrDeep)
}

// TestP7_3Deep prints what is as deep as may be, and reads it.
func TestP7_3Deep(t *testing.T) {
	for what, deepen := range deepened() {
		depth := api.MaxDepth
		if what == "not" || what == "condition" {
			depth = 33 // each is printed in brackets, and opens itself: 64 are open
		}
		s := "X"
		for range depth - 1 {
			s = deepen(s)
		}
		m := moduleOf(t, "module m p("+s+") :- X = "+s+".")
		printed, e := tree.Print(m)
		if e != api.OK {
			t.Fatal(what, e)
		}
		if again := moduleOf(t, printed); !tree.Same(m, again) || !alike(m, again) {
			t.Error(what)
		}
	}
	pattern := strings.Repeat("c(", 63) + "()" + strings.Repeat(")", 63)
	typ := strings.Repeat("t(", 63) + "()" + strings.Repeat(")", 63)
	m := moduleOf(t, "module m type t = c("+typ+") rel p(x: "+typ+") p() :- q("+pattern+"), not q("+pattern+").")
	printed, _ := tree.Print(m)
	if again := moduleOf(t, printed); !tree.Same(m, again) {
		t.Error("patterns or types")
	}
}
