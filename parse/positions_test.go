package parse_test

import (
	"slices"
	"testing"

	"corollary/api"
)

// inExpr are the positions in an expression, from the left in its text.
func inExpr(e api.Expr) []api.Pos {
	var l []api.Pos
	for i, part := range e.Args {
		if e.Kind == api.Call && len(e.Args) == 2 && i == 1 {
			l = append(l, e.Pos)
		}
		l = append(l, inExpr(part)...)
	}
	switch {
	case e.Kind == api.Call && len(e.Args) == 2:
		return l
	case e.Kind == api.Field:
		return append(l, e.Pos)
	}
	return append([]api.Pos{e.Pos}, l...)
}

func inExprs(exprs []api.Expr) []api.Pos {
	var l []api.Pos
	for _, e := range exprs {
		l = append(l, inExpr(e)...)
	}
	return l
}

func inBody(body []api.Literal) []api.Pos {
	var l []api.Pos
	for _, x := range body {
		l = append(append(l, x.Pos), inExprs(x.Args)...)
	}
	return l
}

// inModule are the positions in a module whose kinds are one after another.
func inModule(m api.Module) []api.Pos {
	var l []api.Pos
	for _, x := range m.Imports {
		l = append(l, x.Pos)
	}
	for _, x := range m.Types {
		l = append(l, x.Pos)
	}
	for _, x := range m.Rels {
		l = append(l, x.Pos)
	}
	for _, x := range m.Rules {
		l = append(append(append(l, x.Pos), inExprs(x.Args)...), inBody(x.Body)...)
	}
	for _, x := range m.Nevers {
		l = append(append(l, x.Pos), inBody(x.Body)...)
	}
	return l
}

// checkPositions requires that the positions in a module are those of the marks, from the left.
func checkPositions(t *testing.T, marked string) {
	t.Helper()
	s, want := unmarked(marked)
	if l := inModule(moduleOf(t, s)); !slices.Equal(l, want) {
		t.Errorf("Parse(%q): %v, not %v", s, l, want)
	}
}

// checkExprPositions requires that the positions in an expression are those of the marks, wherever it stands.
func checkExprPositions(t *testing.T, marked string) {
	t.Helper()
	s, want := unmarked(marked)
	if l := inExpr(exprOf(t, s)); !slices.Equal(l, want) {
		t.Errorf("Expr(%q): %v, not %v", s, l, want)
	}
	checkPositions(t, "module m\n^p("+marked+", count("+marked+"\n)) :- ^X = "+marked+", ^\t("+marked+").\n^never n :- ^X = "+marked+".")
}

func TestP7_1PositionsOfParts(t *testing.T) {
	checkPositions(t, "module m ^import a ^import b\n\n  ^import c # import d\n")
	checkPositions(t, "module m ^type t = c ^pub type t('a) = c(x: int) | d\n ^pub type u = d(t(int), (t, t))")
	checkPositions(t, "module m\t^rel p() ^input q(x: int)\r\n ^pub rel r() \n\t^pub input s(x: t(int, int))")
	checkPositions(t, "module m ^p(). ^a.p() . # p()\n ^q(). ^p() :- ^q().")
	checkPositions(t, "module m ^never n :- ^p(). # never\n   ^never\nn :- ^p().")
	checkPositions(t, "module m ^import a ^pub type t = c ^rel p() ^p() :- ^p(), ^p(). ^never n :- ^p(), ^p().")
}

func TestP7_1PositionsOfLiterals(t *testing.T) {
	checkPositions(t, "module m ^p() :- ^q(), ^a.q(^X), ^not q(), ^not a.q(^X, ^Y), ^X = ^1, ^^X, ^^1, ^ (^nil), ^((^1)), ^^not ^X, ^(^not (^X)).")
	checkPositions(t, "module m ^p() :- ^^X ^== ^1, ^(^X) ^== ^1, ^^- ^X, ^^len(^X), ^^if ^X then ^Y else ^Z, ^^X ^.f, ^(^nil) ^.f.")
	checkPositions(t, "module m ^never n :- \n ^q(),\n\t^not # a\n q(^X), ^X\n=\n^1, ^^X\n^==\n^1,\n^^- ^X.")
}

func TestP7_1PositionsOfPatterns(t *testing.T) {
	for _, before := range []string{"^p() :- ^q(", "^p() :- ^not q(", "^never n :- ^a.q(", "^never n :- ^q(^_), ^not q(^X, "} {
		checkPositions(t, "module m "+before+"^true, ^1, ^-1, ^- 1b, ^\"a\", ^X, ^_).")
		checkPositions(t, "module m "+before+"^(^X, ^Y), ^(), ^nil, ^a.nil, ^c(^1), ^a.c(^X, ^_), \n ^c(\n^(^1, ^-\n1), ^c(^_))).")
	}
}

func TestP7_2PositionsOfExpressions(t *testing.T) {
	for _, s := range []string{
		"^true", "^false", "^1", "^-1", "^- 1", "^1b", "^-\n1b", "^\"a\"", "^X", "^()", "^nil", "^a.nil", "(^X)", "((^X))", "(\n ^-1)", "(^nil)",
		"^(^X, ^1)", "^(^X, (^Y), ^(^1, ^2), ^())", "^c(^X)", "^a.c(^X, (^Y), ^c(^1))", "^c\n(^(^1, ^2))",
		"^neg(^X)", "^len(^1)", "^big((^X))", "^int\n (^X ^+ ^1)", "^- ^X", "^-^X", "^- ^- ^X", "^-(^1)", "^- ^-1", "^- (^X)", "^-^-^(^1, ^2)", "^not ^X", "^not ^not ^X", "^not (^X)", "^not ^- ^X", "^not ^X ^== ^1",
		"^if ^X then ^1 else ^2", "^if ^if ^A then ^B else ^C then ^D ^+ ^E else ^if ^F then ^G else ^H", "(^if ^X then ^1 else ^2) ^+ ^3",
		"^X^.f", "^X ^.f\n^.g", "(^X)^.f", "^c(^X)^.f", "^1^.f", "^-1^.f", "^- ^X^.f^.g", "(^X ^+ ^Y)^.f", "^nil ^.f", "^()^.f", "^len(^X)^.f",
		"^X ^+ ^1 ^* ^Y ^== ^Z ^and ^not ^A", "(^X ^+ ^1) ^* ^Y", "^X ^- ^1 ^- ^-1 ^- ^- ^X", "(^X)\n^==\n(^Y)", "((^X) ^or ((^Y)))", "^X^-^1", "^X^++^Y", "^X^<=^Y",
	} {
		checkExprPositions(t, s)
	}
	for _, operator := range binary() {
		checkExprPositions(t, "^X ^"+operator+" ^Y")
		checkExprPositions(t, "(^X\n^"+operator+" # a\n ^Y)")
		checkExprPositions(t, "(((^X) ^"+operator+" (^c(^Y))))")
	}
}
