package tree_test

import (
	"slices"
	"strings"
	"testing"

	"corollary/api"
	"corollary/tree"
)

// TestP6_3RandomModules holds many modules against the lines that they were made with.
func TestP6_3RandomModules(t *testing.T) {
	g := newGenerator(1)
	for range 6000 {
		m, lines := g.module(3)
		want := strings.Join(lines, "\n") + "\n"
		if s, e := tree.Print(m); e != api.OK || s != want {
			t.Fatalf("%v\n%s\nnot\n%s", e, s, want)
		}
		if e := tree.Check(m); e != api.OK {
			t.Fatalf("%v\n%s", e, want)
		}
	}
}

// TestP6_3RandomExpressions holds many expressions and patterns against the texts that they were made with.
func TestP6_3RandomExpressions(t *testing.T) {
	g := newGenerator(2)
	for range 30000 {
		e, want := g.expr(5)
		checkExpr(t, e, want)
		p, want := g.pattern(5)
		if !tree.Pattern(p) {
			t.Errorf("no pattern: %s", want)
		}
		checkText(t, ofRule(rule("p", nil, atom("q", p))), "p() :- q("+want+").")
	}
}

// TestP6_3TextsOfModules holds many small modules against one another: their texts are equal exactly if they are the same.
func TestP6_3TextsOfModules(t *testing.T) {
	g := newGenerator(3)
	var l []api.Module
	var texts []string
	for range 1500 {
		m, lines := g.module(1)
		m.Name = "m"
		l, texts = append(l, m), append(texts, strings.Join(lines[1:], "\n"))
	}
	equal := 0
	for i := range l {
		for k := range i {
			same := texts[i] == texts[k]
			if tree.Same(l[i], l[k]) != same || tree.Same(l[k], l[i]) != same {
				t.Errorf("Same is not %t:\n%s\n%s", same, texts[i], texts[k])
			}
			if same {
				equal++
			}
		}
	}
	if equal < 200 {
		t.Errorf("only %d were the same", equal)
	}
}

// TestP6_3TextsOfAllSmallExpressions has all expressions of some depths over a few names: no two have the same text.
func TestP6_3TextsOfAllSmallExpressions(t *testing.T) {
	l := exprs(truth(1), num(1), num(-1), long("1"), long("-1"), text("1"), text("X"), text("a"), text("(X, X)"), variable("X"), variable("Y"), tup(), cons("a"), cons("b"), cons("a.b"), cons("b.a"))
	l = append(l, larger(l)...)
	few := exprs(variable("X"), num(1), num(-1), cons("a"), cons("a.b"), cons("a", num(1)), field("a", variable("X")), field("b", cons("a")), call("neg", num(1)), call("-", num(1), num(1)), tup(), tup(num(1), num(1)), call("not", variable("X")))
	l = append(l, larger(larger(few)[:400])...)
	texts := map[string]api.Expr{}
	for _, e := range l {
		s, f := tree.Expr(e)
		if f != api.OK {
			t.Fatalf("%+v: %v", e, f)
		}
		if other, there := texts[s]; there && !alike(e, other) {
			t.Errorf("%s: %+v, %+v", s, e, other)
		}
		texts[s] = e
	}
	if len(texts) < 100000 {
		t.Errorf("only %d texts", len(texts))
	}
}

// larger are all expressions of one argument of these, and of two of some of them.
func larger(l []api.Expr) []api.Expr {
	var all []api.Expr
	for i, a := range l {
		all = append(all, cons("a", a), cons("a.b", a), field("a", a), field("b", a), call("not", a), call("neg", a), call("len", a), call("big", a), call("int", a), tup(a, a, a), choice(a, a, a))
		for k := range min(len(l), 20) {
			b := l[(i*7+k)%len(l)]
			all = append(all, tup(a, b), cons("a", a, b), cons("b", a, b), choice(a, b, a), choice(b, a, a), tup(a, b, a))
			for _, s := range binary() {
				all = append(all, call(s, a, b))
			}
		}
	}
	return all
}

// without are the parts of a module, each with the module without it, by the number of its line.
func without(m api.Module) map[int]api.Module {
	l := map[int]api.Module{}
	line := 1
	for i := range m.Imports {
		other := m
		other.Imports = slices.Delete(slices.Clone(m.Imports), i, i+1)
		l[line] = other
		line++
	}
	for i := range m.Types {
		other := m
		other.Types = slices.Delete(slices.Clone(m.Types), i, i+1)
		l[line] = other
		line++
	}
	for i := range m.Rels {
		other := m
		other.Rels = slices.Delete(slices.Clone(m.Rels), i, i+1)
		l[line] = other
		line++
	}
	for i := range m.Rules {
		other := m
		other.Rules = slices.Delete(slices.Clone(m.Rules), i, i+1)
		l[line] = other
		line++
	}
	for i := range m.Nevers {
		other := m
		other.Nevers = slices.Delete(slices.Clone(m.Nevers), i, i+1)
		l[line] = other
		line++
	}
	return l
}

// checkWithout requires that a module without one of its parts has the text without that line.
func checkWithout(t *testing.T, m api.Module) {
	t.Helper()
	s, e := tree.Print(m)
	if e != api.OK {
		t.Fatal(e)
	}
	lines := strings.SplitAfter(s, "\n")
	lines = lines[:len(lines)-1]
	parts := without(m)
	if len(lines) != 1+len(parts) {
		t.Errorf("%d lines of %d parts:\n%s", len(lines), len(parts), s)
	}
	for i, other := range parts {
		want := strings.Join(slices.Delete(slices.Clone(lines), i, i+1), "")
		if s, e := tree.Print(other); e != api.OK || s != want {
			t.Errorf("without line %d: %v\n%s\nnot\n%s", i, e, s, want)
		}
		if tree.Same(m, other) || tree.Check(other) != api.OK {
			t.Errorf("without line %d: the same, or refused", i)
		}
	}
}

func TestP6_4Parts(t *testing.T) {
	m, _ := program()
	checkWithout(t, m)
	checkWithout(t, sample())
	checkWithout(t, api.Module{Name: "m"})
	g := newGenerator(4)
	for range 1500 {
		m, _ := g.module(3)
		checkWithout(t, m)
	}
}

// TestP6_4AllWithout takes one part after another away, until nothing but the name is left.
func TestP6_4AllWithout(t *testing.T) {
	m := sample()
	for parts := without(m); len(parts) > 0; parts = without(m) {
		m = parts[1+(len(parts)-1)/2]
		if e := tree.Check(m); e != api.OK {
			t.Error(e)
		}
	}
	checkText(t, m)
}
