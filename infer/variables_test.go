package infer_test

import (
	"strconv"
	"strings"
	"testing"
)

// TestP11_1OrderOfVariables has variables in expressions, patterns and literals of all kinds: their first occurrence counts.
func TestP11_1OrderOfVariables(t *testing.T) {
	checkBody(t, "nt(B, A), t(A), n(C), X = A, n(B)", "B int; A text; C int; X text")
	checkBody(t, "Z = (Y, X), X = Y", "Z tuple('a, 'a); Y 'a; X 'a")
	checkBody(t, "Z = (Y, (X, B), (), W), A = Z", "Z tuple('a, tuple('b, 'c), tuple, 'd); Y 'a; X 'b; B 'c; W 'd; A tuple('a, tuple('b, 'c), tuple, 'd)")
	checkBody(t, "B + A == C - -D, E % F > G * H / I, n(C), g(F)", "B int; A int; C int; D int; E big; F big; G big; H big; I big")
	checkBody(t, "(if C then B else A) == D, E = if len(H) == 1 then G ++ H else F", "C bool; B 'a; A 'a; D 'a; E text; H text; G text; F text")
	checkBody(t, "not tu((B, (A, _))), pl(pair(line(pt(D, _), C), F))", "B int; A text; D int; C pt; F list(line)")
	checkBody(t, "(C.x == B.x), pt(B), pt(C), D = pair(A, C).second, (not F or not E and F)", "C pt; B pt; D pt; A 'a; F bool; E bool")
	checkBody(t, "X = cons(B, cons(A, nil)), C = some(X), X = cons(D, E)", "X list('a); B 'a; A 'a; C opt(list('a)); D 'a; E list('a)")
	checkTypes(t, "pnt(B + A, D) :- n(C), A = B. pnt(E, D) :- t(D). pnt(sum(B + A), max(C)). pn(count((B, A, B, C))). ptu((B, A)) :- n(C), B = C.", "C int; A int; B int; D text\nD text; E int\nB int; A int; C text\nB 'a; A 'b; C 'c\nC int; B int; A text\n--")
}

// TestP11_1NamesOfUnknown has types with unknown parts: those of all variables of a rule are named in their order.
func TestP11_1NamesOfUnknown(t *testing.T) {
	checkBody(t, "X = nil, Y = (Z, X, nil), A = Z", "X list('a); Y tuple('b, list('a), list('c)); Z 'b; A 'b")
	checkBody(t, "A = B, C = D, B = D", "A 'a; B 'a; C 'a; D 'a")
	checkBody(t, "n(X), A = B, Y = X, C = nil, D = C", "X int; A 'a; B 'a; Y int; C list('b); D list('b)")
	checkTypes(t, "p() :- X = nil. p() :- Y = nil, X = (Y, nil). never a :- Z = pair(Y, X), Z = pair(X, Y). never b :- X = Y.", "X list('a)\nY list('a); X tuple(list('a), list('b))\n--\nZ pair('a, 'a); Y 'a; X 'a\nX 'a; Y 'a")
	var args, want []string
	for i := range 60 {
		args = append(args, "(B"+strconv.Itoa(i)+" == B"+strconv.Itoa(i)+")")
		name := "'" + string(rune('a'+i%26))
		if i >= 26 {
			name += strconv.Itoa(i / 26)
		}
		want = append(want, "B"+strconv.Itoa(i)+" "+name)
	}
	checkBody(t, strings.Join(args[:50], " and ")+", "+strings.Join(args[50:], " or "), strings.Join(want, "; "))
}

// TestP11_1NoVariables has rules and nevers without variables, and modules without rules or nevers.
func TestP11_1NoVariables(t *testing.T) {
	checkTypes(t, "", "--")
	checkTypes(t, "p(). pn(1) :- n(1), 1 < 2. pnt(len(\"a\"), \"b\") :- not n(_). never a :- true. never b :- none().", "\n\n\n--\n\n")
	checkTypes(t, "p(). p() :- X = 1. p().", "\nX int\n\n--")
	checkTypes(t, "never a :- none(). never b :- n(X). never c :- none().", "--\n\nX int\n")
	if x := made(t, moduleOf(t, "")); x.Rules != nil || x.Nevers != nil {
		t.Errorf("%v", x)
	}
}

// TestP11_1ParametersOfAllNames has parameters that have names like those of unknown types, and types and relations with names of all kinds.
func TestP11_1ParametersOfAllNames(t *testing.T) {
	m := moduleOf(t, "type one('a, 'b) = first(x: 'a) | second(y: 'b, z: 'a) type rec('a) = rec(x: 'a, y: one('a, int)) never n :- X = first(A), Y = second(B, C), Z = (X, Y, X), W = rec(D, F), E = W.y.")
	want := "--\nX one('a, 'b); A 'a; Y one('c, 'd); B 'd; C 'c; Z tuple(one('a, 'b), one('c, 'd), one('a, 'b)); W rec('e); D 'e; F one('e, int); E one('e, int)"
	for _, name := range []string{"'1", "'2", "'5", "'a1", "'c", "'a.b", "' "} {
		renamed := copied(m)
		for i, d := range renamed.Types {
			renamed.Types[i].Params[0] = name
			for k, c := range d.Cons {
				for j, f := range c.Fields {
					renamed.Types[i].Cons[k].Fields[j].Type = replacedName(f.Type, "'a", name)
				}
			}
		}
		if got := shownTypes(made(t, renamed)); got != want {
			t.Errorf("%s: %s", name, got)
		}
	}
	m = moduleOf(t, "type t = c rel r(x: t) never n :- r(X), Y = (X, c).")
	m.Types[0].Name, m.Rels[0].Name, m.Nevers[0].Body[0].Rel, m.Rels[0].Fields[0].Type.Name = "Any name at all, (int)", "", "", "Any name at all, (int)"
	if got := shownTypes(made(t, m)); got != "--\nX Any name at all, (int); Y tuple(Any name at all, (int), Any name at all, (int))" {
		t.Errorf("%s", got)
	}
}

// TestP11_1Params has Params that are no parameters, or one twice.
func TestP11_1Params(t *testing.T) {
	m := moduleOf(t, "type t('a, 'b) = t(x: 'a, y: int) never n :- X = t(Y, 1), Z = X.x, W = X.y.")
	m.Types[0].Params[1] = "'a"
	if got := shownTypes(made(t, m)); got != "--\nX t('a, 'b); Y 'a; Z 'a; W int" {
		t.Errorf("one twice: %s", got)
	}
	m.Types[0].Params[1] = "int"
	if got := shownTypes(made(t, m)); got != "--\nX t('a, 'b); Y 'a; Z 'a; W int" {
		t.Errorf("int: %s", got)
	}
}
