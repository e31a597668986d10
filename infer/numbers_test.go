package infer_test

import (
	"testing"

	"corollary/api"
)

// TestP11_1NumbersKnownLater has numbers that become known by a later literal, by the head, or by a field.
func TestP11_1NumbersKnownLater(t *testing.T) {
	checkBody(t, "X = Y + Z, n(Z)", "X int; Y int; Z int")
	checkBody(t, "X = -Y, Z = X, A = Z, g(A)", "X big; Y big; Z big; A big")
	checkBody(t, "X = Y.x + Z, pt(Y)", "X int; Y pt; Z int")
	checkBody(t, "X = Y.v * Y.v, Y = Z.v, Z = box(box(1b))", "X big; Y box(big); Z box(box(big))")
	checkBody(t, "X = Y.first - Z, Y = pair(A, B), A = B, (B == 1)", "X int; Y pair(int, int); Z int; A int; B int")
	checkTypes(t, "pn(X) :- X = Y % Z. pg(sum(X)) :- Y = -X. png(Y, -X) :- X = Z.v, Y = A.v, Z = box(X), A = box(Y), (-Y < Y). pn(count(X)) :- Y = X + X, g(Y).", "X int; Y int; Z int\nY big; X big\nX big; Z box(big); Y int; A box(int)\nY big; X big\n--")
	checkText(t, "pn(count(X)) :- Y = X ^+ X.", api.ErrType)
}

// TestP11_1NumbersLast has numbers that are none, which are errors after all others, also after all fields.
func TestP11_1NumbersLast(t *testing.T) {
	checkBodyRefused(t,
		"X = -Y, ^Z = len(Z)",
		"X = true + false, n(^true)",
		"X = true + false, ^1",
		"X = true + false, Y = Z^.x",
		"X = -Y.x, Z = Y^.z, pt(Y)",
		"X = -Y.y, Z = Y^.z, pt(Y)",
		"X = ^-Y.y, Z = Y.x, pt(Y)",
		"X = true ^+ false, Y = nil - nil",
		"n(Y), X = Y + 1, Z = \"a\" ^* \"b\", A = -true",
		"X = -(true ^+ false)",
		"X = (1 + 2, A ^+ A, B + B)",
		"X = (1 + 2, A + A, B ^+ B), n(A)",
		"X = ^-Y, Z = -Y",
		"X = Y ^* Z, A = box(X), Z = A.v",
	)
	checkText(t, "pt2(sum(^X)) :- Y = 1 + 2.", api.ErrType)
	checkText(t, "pt2(sum(X)) :- Y = true ^+ true.", api.ErrType)
	checkText(t, "pt2(sum(X)) :- Y = 1 ^+ true.", api.ErrType)
	checkText(t, "pnt(sum(1 + 2), sum(^\"a\")).", api.ErrType)
	checkText(t, "pnt(sum(A), sum(^B)) :- C = -A.", api.ErrType)
	checkText(t, "pnt(sum(X), sum(Y ^+ Z)).", api.ErrType)
	checkText(t, "pnt(sum(X), sum(Y)) :- Z = A^.x.", api.ErrType)
	checkText(t, "pb(sum(^X)). pn(true).", api.ErrType)
}
