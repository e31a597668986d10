package infer_test

import (
	"strconv"
	"strings"
	"testing"

	"corollary/api"
)

// TestP11_1Fields has fields of types with a single constructor, which are known before.
func TestP11_1Fields(t *testing.T) {
	checkBody(t, "pt(X), Y = X.x, Z = X.y", "X pt; Y int; Z text")
	checkBody(t, `X = pt(1, "a").x, Y = pt(1, "a").y`, "X int; Y text")
	checkBody(t, "pl(X), Y = X.first, Z = X.first.to.y, A = X.second", "X pair(line, list(line)); Y line; Z text; A list(line)")
	checkBody(t, "X = pair(Y, 1).first, Z = pair(Y, 1).second, A = box(nil).v", "X 'a; Y 'a; Z int; A list('b)")
	checkBody(t, `X = named(1, "a", true, nil, "b"), Y = X.what, Z = X.name, A = X.all`, "X named(bool); Y bool; Z text; A list(bool)")
	checkBody(t, "X = ghost(1), Y = X.n, (X.n == X.n + 1)", "X ghost('a); Y int")
	checkBody(t, "pt(X), X.x > 1, X.y == \"a\", (if X.x == 1 then X else X).x == 2", "X pt")
	checkTypes(t, "pnt(X.x, min(X.y)) :- pt(X). png(sum(X.x), 1b) :- pt(X). pn(X.v.x) :- bp(X). never a :- bp(X), X.v.x == 1.", "X pt\nX pt\nX box(pt)\n--\nX box(pt)")
}

// TestP11_1FieldsOfOthers has fields of types that have no such field, or several constructors, or are not declared.
func TestP11_1FieldsOfOthers(t *testing.T) {
	checkBodyRefused(t, "pt(X), Y = X^.z", "X = (dot)^.x", "ln(X), Y = X^.head", "Y = cons(1, nil)^.tail", "Y = (nil)^.head", "Y = some(1)^.v", "ot(X), Y = X^.v",
		"n(X), Y = X^.x", "Y = (1)^.x", `Y = ("a")^.x`, "Y = (1, 2)^.first", "Y = ()^.x", "b(X), X^.x", "g(X), X^.n", "X = pt(1, \"a\")^.v", "X = box(1).v^.v", "X = box(box(1)).v^.x",
		`X = named(1, "a", 1, nil, "a")^.x`)
	m, at := marked(t, "type one = a(int) type u = u(x: one) rel p(x: u) never n :- p(X), Y = X.x^.a.")
	checkRefused(t, "a field without a name", m, at, api.ErrType)
}

// TestP11_1FieldsOfTheirTypes requires that what a field is must be what it is used as, at the position of the field.
func TestP11_1FieldsOfTheirTypes(t *testing.T) {
	checkBodyRefused(t, "pt(X), t(Y), Y = X^.x", "pt(X), n(Y), Y = X.x, Y = X^.y", "pt(X), X^.x", "pt(X), X^.y == 1", "pt(X), Y = X^.x ++ X.y", "X = pair(1, \"a\"), X.first == X^.second",
		"X = box(Y), (X^.v == (Y, 1))", "X = cons(pair(Z, Z), nil), Y = pair(Z, 1), Y^.second == \"a\"", "X = pair(1, true), X.second, X^.first")
	checkText(t, "pt2(X^.x) :- pt(X).", api.ErrType)
	checkText(t, "pg(sum(X^.x)) :- pt(X).", api.ErrType)
	checkText(t, "pn(max(X^.y)) :- pt(X).", api.ErrType)
	checkTypes(t, "pn(count(X.y)) :- pt(X).", "X pt\n--")
}

// TestP11_1FieldsKnownLater has fields of types that become known by a later literal, by the head, or by another field, in any order.
func TestP11_1FieldsKnownLater(t *testing.T) {
	checkBody(t, "Y = X.x, Z = X.y, pt(X)", "Y int; X pt; Z text")
	checkBody(t, "(X.x == Y), X = pt(A, B)", "X pt; Y int; A int; B text")
	checkBody(t, "A = B.v, B = C.v, C = D.v, D = box(box(box(1)))", "A int; B box(int); C box(box(int)); D box(box(box(int)))")
	checkBody(t, "D = box(box(box(1))), C = D.v, B = C.v, A = B.v", "D box(box(box(int))); C box(box(int)); B box(int); A int")
	checkBody(t, "A = B.first.first.second, B = pair(pair(C, D), E), C = pair(F, G)", "A 'a; B pair(pair(pair('b, 'a), 'c), 'd); C pair('b, 'a); D 'c; E 'd; F 'b; G 'a")
	checkBody(t, "X = Y.first, Z = X.v, Y = pair(A, B), C = A.v, A = box(B), n(B)", "X box(int); Y pair(box(int), int); Z int; A box(int); B int; C int")
	checkBody(t, "(X.v == Y.first), Z = Y.first.x, X = box(A), A = B.v, Y = C.v, C = box(pair(pt(1, D), 1)), B = box(A)", "X box(pt); Y pair(pt, int); Z int; A pt; B box(pt); C box(pair(pt, int)); D text")
	checkTypes(t, "pbp(X) :- Y = X.v.x. pln(cons(X.x, nil)) :- Y = X.y, pt(X). pnt(X.x, Y) :- Y = X.y, X = Z.from, pl(pair(Z, _)).", "Y int; X box(pt)\nY text; X pt\nY text; X pt; Z line\n--")
	checkTypes(t, "pbp(X) :- X.v.y ++ Y == Y.", "X box(pt); Y text\n--")
}

// TestP11_1FieldsInOrder has several fields: each time the first one that can be settled is.
func TestP11_1FieldsInOrder(t *testing.T) {
	checkBodyRefused(t,
		"pt(X), X^.x, X.y",     // the first of two
		"pt(X), A = Z.a, X^.b", // the first one of which the type is known
		"A = X.v^.a, B = Y.b, X = box(pt(1, \"a\")), Y = pt(1, \"b\")",        // that of a field that was settled, before the next one
		"A = X.a, B = Y^.b, X = Z.v, Z = box(pt(1, \"a\")), Y = pt(1, \"b\")", // but not before one that stands ahead of what makes it known
		"A = X^.a, X = Z.v, B = Y.b, Z = box(pt(1, \"a\")), Y = pt(1, \"b\")", // as soon as it is known, it is the first one again
		"A = X^.a, B = X.b, X = Z.v, C = Y.c, Z = box(pt(1, \"a\")), Y = pt(1, \"b\")",
		"A = X.x, B = X^.b, X = Z.v, C = Y.c, Z = box(pt(1, \"a\")), Y = pt(1, \"b\")",
		"A = X^.v, n(A), X = Y.v, (1 == Z.v), Y = box(box(\"a\")), Z = box(\"a\")",
		"A = X^.v, n(A), X = Y.v, (1 == Z.v), Y = box(Z), Z = box(\"a\")",
		"A = X.v, X = Y.v, (1 == Z^.v), Y = box(Z), Z = box(\"a\")",
	)
}

// TestP11_1FieldsNeverKnown has fields of which no type is ever known: the first one of those is an error, after all others.
func TestP11_1FieldsNeverKnown(t *testing.T) {
	checkBodyRefused(t, "X = Y^.x", "X = Y^.x, Y = Z.y", "Y = Z^.y, X = Y.x", "X = Y^.x.y", "X = pair(Y, Z).first^.x", "X^.x == 1", "X = Y, Z = Y^.x",
		"pt(X), A = X.x, B = Y^.y, C = Z.z, D = X.y", "pt(X), B = Y.y, A = X^.z", "B = Y.y, pt(X), X^.x", "X = Y^.v, Y = X.v", "(X^.v == X)", "X = Y^.x, 1 < 2, A = B.x")
	checkText(t, "pn(X) :- X = Y^.x.", api.ErrType)
	checkText(t, "pn(X^.x).", api.ErrType)
	checkText(t, "pn(count(X^.x)).", api.ErrType)
}

// TestP11_1ManyFields has long chains, in both orders, and many fields of one type.
func TestP11_1ManyFields(t *testing.T) {
	var chain, want []string
	for i := range 60 {
		chain = append(chain, "A"+strconv.Itoa(i+1)+" = A"+strconv.Itoa(i)+".v")
		want = append(want, "A"+strconv.Itoa(i)+" "+shown(nested(61-i, "box", typ("int"))))
	}
	m := moduleOf(t, declared+"never a :- n(A60). never b :- "+strings.Join(chain[:12], ", ")+".")
	for _, s := range chain[12:] {
		m.Nevers[1].Body = append(m.Nevers[1].Body, moduleOf(t, "never a :- "+s+".").Nevers[0].Body...)
	}
	body := append(m.Nevers[1].Body, m.Nevers[0].Body...)
	body = append(body, moduleOf(t, "never a :- A0 = "+strings.Repeat("box(", 60)+"B"+strings.Repeat(")", 60)+".").Nevers[0].Body...)
	m.Nevers = m.Nevers[:1]
	m.Nevers[0].Body = body
	got := map[string]string{}
	for _, v := range made(t, m).Nevers[0] {
		got[v.Name] = shown(v.Type)
	}
	for _, s := range want {
		if name, x, _ := strings.Cut(s, " "); got[name] != x {
			t.Errorf("%s: %s", s, got[name])
		}
	}
	for i := range len(body) / 2 {
		body[i], body[len(body)-1-i] = body[len(body)-1-i], body[i]
	}
	for _, v := range made(t, m).Nevers[0] {
		if shown(v.Type) != got[v.Name] {
			t.Errorf("the other way about: %s %s", v.Name, shown(v.Type))
		}
	}
	checkTypes(t, "pn(X.x) :- "+strings.Repeat("(X.x, X.y, ((X.x, X.y), X.x)) == (1, \"a\", ((Y, Z), 1)), ", 11)+"pt(X).", "X pt; Y int; Z text\n--")
}
