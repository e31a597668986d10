package infer_test

import (
	"strings"
	"testing"

	"corollary/api"
)

// The steps of a rule, one after another.
const (
	unifying = iota
	settling
	unsettled
	counting
	resolving
)

// fragment is a part of a body with one fault, whose variables begin with V; where the mark is, or, in the last step, at the rule.
type fragment struct {
	step int
	text string
}

func fragments() []fragment {
	return []fragment{
		{unifying, "n(^true)"},
		{unifying, `nt(1, "a"), not nt(^"a", 1)`},
		{unifying, "pt(pt(_, ^1))"},
		{unifying, "bp(^box(1))"},
		{unifying, `n(V), ^V = "a"`},
		{unifying, "^V = (V, 1)"},
		{unifying, "^1"},
		{unifying, "VA = 1 + (2 ^- 3b)"},
		{unifying, `VA = (1 ^++ "a")`},
		{unifying, "(V < 1) and (V ^== true)"},
		{unifying, "VA = cons(1, ^cons(nil, nil))"},
		{unifying, "VA = (^if 1 then 2 else 3, 1)"},
		{unifying, "VA = box(len(V) ^+ 1b)"},
		{settling, "VA = (1)^.x"},
		{settling, "pt(V), VA = V^.z"},
		{settling, `VA = "a", pt(V), VA = V^.x`},
		{settling, "VA = box(box(1)), VA.v.v == 1, VA.v^.x == 1"},
		{settling, "pn(VA), pt(V), VA == V^.y"},
		{unsettled, "VA = V^.x"},
		{unsettled, "VA = VB^.x, VC = VA.y"},
		{counting, "VA = V ^+ V"},
		{counting, "VA = true ^* false"},
		{counting, "VA = box(^-nil)"},
		{resolving, "VA = " + boxes(40, "VB") + ", VB = " + boxes(40, "1")},
		{resolving, "VA = (VB, VB, VB), VB = " + wideText(800)},
	}
}

// inPlace is the fragment's text with its own variables, and with the mark if it is to be there.
func (f fragment) inPlace(name string, isMarked bool) string {
	s := strings.ReplaceAll(f.text, "V", name)
	if !isMarked {
		s = strings.Replace(s, "^", "", 1)
	}
	return s
}

// markIf is the mark of a rule, if the fault is to be there.
func markIf(is bool) string {
	if is {
		return "^"
	}
	return ""
}

func errorOf(step int) api.Errno {
	if step == resolving {
		return api.ErrTooLarge
	}
	return api.ErrType
}

// TestErrorsInOrder has each fault alone, and each two of them, in either order, in one body: the one of the earlier step counts, and then the first one.
func TestErrorsInOrder(t *testing.T) {
	for _, a := range fragments() {
		for _, rule := range []string{"p()", "never n"} {
			checkText(t, "p(). "+markIf(a.step == resolving)+rule+" :- X = 1, "+a.inPlace("A", true)+", Y = 2.", errorOf(a.step))
			for _, b := range fragments() {
				isFirst := a.step <= b.step
				first := min(a.step, b.step)
				s := markIf(first == resolving) + rule + " :- " + a.inPlace("A", isFirst) + ", " + b.inPlace("B", !isFirst) + "."
				checkText(t, "p(). "+s, errorOf(first))
			}
		}
	}
}

// TestErrorsOfRulesInOrder has each two faults in two rules, two nevers, or a rule and a never: the first one counts, whatever its step is.
func TestErrorsOfRulesInOrder(t *testing.T) {
	for _, a := range fragments() {
		for _, b := range fragments() {
			first, second := a.inPlace("A", true), b.inPlace("A", false)
			checkText(t, "p(). "+markIf(a.step == resolving)+"p() :- "+first+". p() :- "+second+".", errorOf(a.step))
			checkText(t, "never k :- true. "+markIf(a.step == resolving)+"never n :- "+first+". never m :- "+second+".", errorOf(a.step))
			checkText(t, "never m :- "+second+". "+markIf(a.step == resolving)+"p() :- "+first+".", errorOf(a.step))
		}
	}
}

// TestErrorsOfFormInOrder has what is too deep, what is invalid, and a fault, in one rule and in two.
func TestErrorsOfFormInOrder(t *testing.T) {
	for _, a := range fragments() {
		for _, rules := range []string{"p() :- X = 1, FAULT. p() :- true, Y = 2.", "p() :- true, Y = 2. p() :- FAULT, X = 1."} {
			text := strings.Replace(rules, "FAULT", a.inPlace("A", false), 1)
			m := moduleOf(t, declared+text)
			for i, r := range m.Rules {
				for k := range r.Body {
					checkForms(t, m, i, k, strings.HasPrefix(rules, "p() :- X"))
				}
			}
		}
	}
}

// checkForms spoils a literal of one of two rules, of which the first one, or the second one, has a fault of types.
func checkForms(t *testing.T, m api.Module, i, k int, isFirstWrong bool) {
	t.Helper()
	if isFirstWrong && i == 1 {
		return // the fault of the first rule counts, which other tests have
	}
	at := m.Rules[i].Pos
	invalid, tooDeep := api.Expr{Pos: api.Pos{Line: 99, Col: 1}}, deep(65)
	args := m.Rules[i].Body[k].Args
	for j := range args {
		for _, x := range []struct {
			x api.Expr
			e api.Errno
		}{{invalid, api.ErrForm}, {tooDeep, api.ErrDeep}} {
			n := copied(m)
			n.Rules[i].Body[k].Args[j] = x.x
			checkRefused(t, "one", n, at, x.e)
			n.Rules[i].Body[0].Kind = 9
			checkRefused(t, "one, and a literal", n, at, x.e)
			n.Rules = append(n.Rules, api.Rule{Rel: "p", Body: []api.Literal{{Kind: api.Cond, Args: []api.Expr{tooDeep}}}})
			checkRefused(t, "one, and a later one", n, at, x.e)
			n.Rules[i].Body = append(n.Rules[i].Body, api.Literal{Kind: api.Cond, Args: []api.Expr{tooDeep}})
			checkRefused(t, "one, and one that is too deep", n, at, api.ErrDeep)
		}
	}
}

// TestErrorsWithinLiterals has several faults within one literal, or one head.
func TestErrorsWithinLiterals(t *testing.T) {
	checkBodyRefused(t,
		`nt(^"a", 1)`, `nt(1, ^1)`, `nt(^"a", pt(1, 1))`, `nt(pt(1, ^1), "a")`, `not nt(^"a", pt(1, 1))`, // argument by argument
		`tu((pt(^true, 1), pt(1, 1)))`, "tu(^(1, (2, 3)))", "pl(^pair(1, 2))", "pl(pair(line(^1, 2), 3))",
		"X = pt(true, 1 ^+ 1b)", "X = pt(^true, 1 + 1)", "X = pt(1 ^+ 1b, 1 ++ 1)", // the parts of an expression before itself
		"X = pair(1 ^- 1b, pt(true, 1))", "X = pair(pt(^true, 1), 1 - 1b)", "X = (1 ^- 1b, 1 ++ 1, len(1))", "X = (1 - 1, 1 ^++ 1, len(1))",
		`(1 ^+ "a") + (2 + "b")`, `(1 + 2) + (2 ^+ "b")`, `(1 + 2) ^+ ("a" ++ "b")`, `1 + 2 ^+ "a"`, `(1 ^++ 2) + 3`, `1 + (2 ^++ 3)`,
		"X = if 1 then 2 else 3 ^+ 3b", "X = if 1 then 2 ^+ 2b else true", "X = if (1 ^+ 1b) == 1 then 2 else true", "X = ^if 1 then 2 else true",
		"X = ^len(1) + len(2)", "X = -(1 ^+ 1b)", "not (1 ^and 2)", "(not X) == (1 ^or 2)", "X = (1 ^++ 2).v", "X = (Y.v, 1 ^++ 2)", "X = -Y ++ (Z ++ (1 ^++ 2))",
		"n(X), X = (1 ^++ 2)", "n(X), ^X = (\"a\" ++ \"b\")", "1 ^+ 1b", "^(1, 1 == 1)", "(1, 1 ^== 1b)",
	)
	for _, s := range []string{"pnt(^true, 1 + 1b).", "pnt(1 ^+ 1b, true).", "pnt(^true, 1).", "pnt(1, ^1) :- n(X).", "pnt(true, 1) :- n(^true).", "pnt(1 + 1b, true) :- ^1.", "pnt(pt(1, ^1), 1 + 1b).",
		"pnt(sum(^true), 1).", "pnt(count(1 ^+ 1b), 1).", "pnt(count(1), max(^1)).", "pnt(min(^true), 1 + 1b)."} {
		checkText(t, s, api.ErrType)
	}
}
