package infer_test

import (
	"strings"
	"testing"

	"corollary/api"
)

// wide is a type of so many parts.
func wide(n int) api.Type {
	switch {
	case n == 1:
		return typ("int")
	case n == 2:
		return typ("box", typ("int"))
	}
	x := typ("tuple")
	for _, part := range shares(n - 1) {
		x.Args = append(x.Args, wide(part))
	}
	return x
}

// wideText is the text of an expression whose type has so many parts.
func wideText(n int) string {
	switch {
	case n == 1:
		return "1"
	case n == 2:
		return "box(1)"
	}
	var l []string
	for _, part := range shares(n - 1) {
		l = append(l, wideText(part))
	}
	return "(" + strings.Join(l, ", ") + ")"
}

// shares are up to 16 numbers that make a sum.
func shares(sum int) []int {
	l := times(min(sum, 16), 0)
	for i := range l {
		l[i] = sum / len(l)
		if i < sum%len(l) {
			l[i]++
		}
	}
	return l
}

// boxes is the text of an expression in so many boxes.
func boxes(n int, inner string) string {
	return strings.Repeat("box(", n) + inner + strings.Repeat(")", n)
}

// TestErrorsOfLargeTypes has types of fields of the most parts, and of one more, in each constructor, and in each relation.
func TestErrorsOfLargeTypes(t *testing.T) {
	m := moduleOf(t, `
		type box('a) = box(v: 'a) type u = c(x: int, y: int) | d(int)
		type v = e | f(x: int, y: int, z: int) type w('a) = g('a)
		rel r(x: int) rel s(x: int, y: u, z: int)
		rel q() q() :- 1.`)
	rule := m.Rules[0]
	m.Rules = nil
	made(t, m)
	for i, d := range m.Types {
		for k, c := range d.Cons {
			for j := range c.Fields {
				checkLarge(t, m, rule, d.Pos, func(m api.Module, x api.Type) { m.Types[i].Cons[k].Fields[j].Type = x })
			}
		}
	}
	for i, d := range m.Rels {
		for k := range d.Fields {
			checkLarge(t, m, rule, d.Pos, func(m api.Module, x api.Type) { m.Rels[i].Fields[k].Type = x })
		}
	}
}

// checkLarge puts a type of the most parts, and of one more, into a module; the latter also before a rule that is wrong.
func checkLarge(t *testing.T, m api.Module, rule api.Rule, at api.Pos, put func(m api.Module, x api.Type)) {
	t.Helper()
	m = copied(m)
	put(m, wide(2048))
	made(t, m)
	put(m, wide(2049))
	checkRefused(t, "2049 parts", m, at, api.ErrTooLarge)
	m.Rules = []api.Rule{rule}
	checkRefused(t, "2049 parts before a rule", m, at, api.ErrTooLarge)
	put(m, wide(2048))
	checkRefused(t, "the rule", m, rule.Body[0].Pos, api.ErrType)
}

// TestErrorsOfOtherTypesInFields has types that layer 9 refuses otherwise, and parameters in relations.
func TestErrorsOfOtherTypesInFields(t *testing.T) {
	m := moduleOf(t, "type t = c(x: int) type u('a) = d(x: 'a) rel r(x: int, y: int) rel s(x: int)")
	first, second := m.Rels[0].Pos, m.Rels[1].Pos
	for _, x := range []struct {
		y, z string
		at   api.Pos
		e    api.Errno
	}{
		{"int", "int", api.Pos{}, api.OK},
		{"'a", "int", first, api.ErrType},
		{"tuple(int, u('a))", "int", first, api.ErrType},
		{"'a", "'b", first, api.ErrType},
		{"int", "tuple(t, tuple('b, u('c)))", second, api.ErrType},
		{"'", "int", first, api.ErrTooLarge},
		{"int", "u(')", second, api.ErrTooLarge},
		{"'a", "u(')", first, api.ErrType},
		{"'", "'a", first, api.ErrTooLarge},
	} {
		n := copied(m)
		n.Rels[0].Fields[1].Type, n.Rels[1].Fields[0].Type = of(x.y), of(x.z)
		if x.e == api.OK {
			made(t, n)
			continue
		}
		checkRefused(t, x.y+"; "+x.z, n, x.at, x.e)
		n.Types[1].Cons[0].Fields[0].Type = wide(2049)
		n.Types = append(n.Types, moduleOf(t, "type box('a) = box(v: 'a)").Types...)
		checkRefused(t, "a type before; "+x.y+"; "+x.z, n, m.Types[1].Pos, api.ErrTooLarge)
	}
	n := copied(m)
	n.Types[0].Cons[0].Fields[0].Type, n.Types[1].Cons[0].Fields[0].Type, n.Types[1].Params[0] = wide(3000), typ("'"), "'"
	n.Types = append(n.Types, moduleOf(t, "type box('a) = box(v: 'a)").Types...)
	n.Rels[0].Fields[0].Type = wide(3000)
	checkRefused(t, "two types and a relation", n, m.Types[0].Pos, api.ErrTooLarge)
	n.Types[0].Cons[0].Fields[0].Type = typ("int")
	checkRefused(t, "a type and a relation", n, m.Types[1].Pos, api.ErrTooLarge)
	n = copied(m)
	n.Rels[0].Fields[0].Type, n.Rels[0].Fields[1].Type = typ("'a"), typ("'")
	checkRefused(t, "too large behind a parameter", n, first, api.ErrTooLarge)
	n = copied(m)
	n.Types[0].Name, n.Types[1].Cons[0].Fields[0].Type = "", typ("")
	checkRefused(t, "a type without a name", n, n.Types[1].Pos, api.ErrTooLarge)
	n.Types[1].Params[0], n.Types[1].Cons[0].Fields[0].Type = "'", typ("'")
	checkRefused(t, "a parameter without a name", n, n.Types[1].Pos, api.ErrTooLarge)
}

// TestP11_1TooLargeToUnify has types of the most parts, and of one more, at each place where types are unified.
func TestP11_1TooLargeToUnify(t *testing.T) {
	for _, s := range []string{
		"never n :- ^X = WIDE.",
		"never n :- X ^== WIDE.",
		"never n :- WIDE ^!= X.",
		"never n :- (if true then X ^== WIDE else true).",
		"never n :- (^if true then X else WIDE) == X.",
		"pn(1) :- (^if true then WIDE else X) == X.",
		"never n :- (box(^WIDE)) == box(WIDE).",
		"pn(1) :- 1 < 2, (cons(^WIDE, nil)) == nil.",
		"pn(count(box(^WIDE))).",
		"pn(count(X ^== WIDE)).",
	} {
		made(t, moduleOf(t, declared+strings.ReplaceAll(strings.Replace(s, "^", "", 1), "WIDE", wideText(2048))))
		checkText(t, strings.ReplaceAll(s, "WIDE", wideText(2049)), api.ErrType)
	}
	for _, n := range []int{2048, 2049, 5000} {
		made(t, moduleOf(t, declared+"pn(count("+wideText(n)+"))."))
		checkText(t, "never n :- ^"+wideText(n)+".", api.ErrType)
		checkText(t, "never n :- X = "+wideText(n)+"^.v.", api.ErrType)
	}
	checkText(t, "pnt(count(-"+wideText(2049)+"), ^1).", api.ErrType) // its argument is not unified with anything
	checkText(t, "never n :- bp(^box("+wideText(2048)+")).", api.ErrType)
	checkText(t, "never n :- bp(box(^"+wideText(2049)+")).", api.ErrType)
	checkText(t, "pbp(box(^"+wideText(2049)+")).", api.ErrType)
}

// TestP11_1TooLargeToResolve has variables whose types grow by unification: at the rule, after all other errors of it.
func TestP11_1TooLargeToResolve(t *testing.T) {
	const doubled = "A = (B, B), B = (C, C), C = (D, D), D = (E, E), E = (F, F), F = (G, G), G = (H, H), H = (I, I), I = (J, J), J = (1, K)"
	for _, s := range []struct{ most, more string }{
		{"X = (Y, Y, 1), Y = " + wideText(1023), "X = (Y, Y, 1, 2), Y = " + wideText(1023)},
		{"Y = " + wideText(1023) + ", X = (1, Y, Y)", "Y = " + wideText(1023) + ", X = (Y, 1, Y, 2)"},
		{"X = cons(Y, nil), Y = " + wideText(2047), "X = cons(Y, nil), Y = " + wideText(2048)},
		{"X = " + boxes(63, "1"), "X = Y, Y = " + boxes(32, "A") + ", A = " + boxes(32, "1")},
		{"X = " + boxes(32, "Y") + ", n(Y)", "X = " + boxes(32, "Y") + ", Y = " + boxes(32, "Z")},
		{"X = " + boxes(62, "Y") + ", Y = (1, 2)", "X = " + boxes(62, "Y") + ", Y = (1, (2, 3))"},
		{doubled, doubled + ", L = (A, A, 1)"},
		{"(box(X)) == box(Y), Y = " + wideText(2048), "(box(X)) == box(Y), Y = " + wideText(2048) + ", Z = box(Y)"},
		{"X = box(Y).v, Y = " + wideText(2047), "Z = box(X), X = box(Y).v, Y = " + wideText(2047) + ", A = box(Z)"},
	} {
		made(t, moduleOf(t, declared+"p() :- "+s.most+". never n :- "+s.most+"."))
		checkText(t, "p(). ^p() :- "+s.more+". never n :- 1.", api.ErrTooLarge)
		checkText(t, "p() :- true. never n :- "+s.most+". ^never m :- "+s.more+". never o :- 1.", api.ErrTooLarge)
		checkText(t, "p() :- "+s.more+", ^1.", api.ErrType)
		checkText(t, "never n :- ^1, "+s.more+".", api.ErrType)
		checkText(t, "pn(^true) :- "+s.more+".", api.ErrType)
		checkText(t, "pn(ZZ^.x) :- "+s.more+".", api.ErrType)
		checkText(t, "pn(1) :- "+s.more+", true == ^-ZZ.", api.ErrType)
	}
}

// TestP11_1TooLargeForFieldsAndNumbers has numbers and arguments of fields that are too large, and fields that are.
func TestP11_1TooLargeForFieldsAndNumbers(t *testing.T) {
	const large = "Y = (Z, Z, Z), Z = WIDE, X = box(Y)"
	for _, s := range []string{
		large + ", A = X^.v, pt(B), 1 == B.x",
		large + ", A = X.v, pt(B), 1 == B^.v",
		large + ", A = B^.v, C = X.v",
		large + ", A = ^-Y",
		large + ", A = ^-X, B = -1",
		large + ", A = -X, B = Y^.v",
		"Y = (Z, Z, Z), Z = WIDE, A = box(Y)^.v",
		"Y = (Z, Z, Z), Z = WIDE, A = pt(1, \"a\")^.v, B = box(Y).v",
	} {
		checkBodyRefused(t, strings.Replace(s, "WIDE", wideText(1000), 1))
	}
	const s = "type two('a) = two(x: ('a, 'a)) type both('a, 'b) = both(n: int, x: ('a, 'a, 'b)) never n :- A = WIDE, "
	for _, x := range []struct {
		parts int
		body  string
		e     api.Errno
	}{
		{1023, "X = two((A, A)), Y = X.x.", api.OK},
		{1024, "X = two((A, A)), Y = X^.x.", api.ErrType},
		{1023, "true or (two((A, A))).x != (A, A).", api.OK},
		{1024, "true or (two((A, A)))^.x != (A, A).", api.ErrType},
		{1500, "X = both(1, (A, A, B)), Y = X.n.", api.OK},
		{1500, "X = both(1, (A, A, B)), Y = X^.x.", api.ErrType},
	} {
		text := strings.Replace(s, "WIDE", wideText(x.parts), 1) + x.body
		if x.e == api.OK {
			made(t, moduleOf(t, declared+text))
		} else {
			checkText(t, text, x.e)
		}
	}
}
