package parse_test

import (
	"reflect"
	"slices"
	"testing"

	"corollary/api"
	"corollary/lex"
	"corollary/parse"
	"corollary/tree"
)

// TestP7_1RandomModules holds the modules of many texts, with all positions, against those that the texts were made of.
func TestP7_1RandomModules(t *testing.T) {
	t.Parallel()
	g := newGenerator(1)
	for range 2000 {
		want := g.module(3)
		s := textOfModule(g, &want)
		if m := moduleOf(t, s); !reflect.DeepEqual(m, want) {
			t.Fatalf("Parse(%q):\n%+v\nnot\n%+v", s, m, want)
		}
	}
}

// TestP7_2RandomExpressions holds the expressions of many texts, with all positions, against those that the texts were made of.
func TestP7_2RandomExpressions(t *testing.T) {
	t.Parallel()
	g := newGenerator(2)
	for range 12000 {
		want := g.expr(6)
		s := textOfExpr(g, &want, pick(g, 0, 0, 2, 8))
		if x := exprOf(t, s); !reflect.DeepEqual(x, want) {
			t.Fatalf("Expr(%q):\n%+v\nnot\n%+v", s, x, want)
		}
	}
}

// TestP7_3WhatIsPrintedIsRead prints modules that no text was read for.
func TestP7_3WhatIsPrintedIsRead(t *testing.T) {
	t.Parallel()
	g := newGenerator(3)
	for range 2000 {
		want := g.module(3)
		s, e := tree.Print(want)
		if e != api.OK {
			t.Fatalf("%v: %+v", e, want)
		}
		if m := moduleOf(t, s); !alike(m, want) || !tree.Same(m, want) {
			t.Fatalf("Parse(%q):\n%+v\nnot\n%+v", s, m, want)
		}
	}
	for range 8000 {
		want := g.expr(5)
		s, _ := tree.Expr(want)
		if x := exprOf(t, s); !alike(x, want) {
			t.Fatalf("Expr(%q):\n%+v\nnot\n%+v", s, x, want)
		}
	}
}

// TestP7_3WhatIsReadCanBePrinted prints the modules of texts, among them some that are nearly wrong, and reads these texts.
func TestP7_3WhatIsReadCanBePrinted(t *testing.T) {
	t.Parallel()
	g := newGenerator(4)
	read := 0
	for range 3000 {
		m := g.module(2)
		s := textOfModule(g, &m)
		if g.chance(2) {
			s = g.spoiled(s)
		}
		m, _, e := parse.Parse(s)
		if e != api.OK {
			continue
		}
		read++
		printed, e := tree.Print(m)
		if e != api.OK {
			t.Fatalf("%q: %v", s, e)
		}
		if again := moduleOf(t, printed); !alike(again, m) || !tree.Same(again, m) {
			t.Fatalf("%q: %+v, then %+v", s, m, again)
		}
	}
	if read < 1500 {
		t.Errorf("only %d", read)
	}
}

// spoiled is a text in which some tokens are others, or missing, or twice there.
func (g generator) spoiled(s string) string {
	l, _, _ := lex.Tokens(s)
	for range 1 + g.IntN(2) {
		if len(l) == 0 {
			break
		}
		i := g.IntN(len(l))
		switch g.IntN(5) {
		case 0:
			l = slices.Delete(l, i, i+1)
		case 1:
			l = slices.Insert(l, i, g.token())
		case 2:
			l[i] = g.token()
		case 3:
			k := g.IntN(len(l))
			l[i], l[k] = l[k], l[i]
		case 4:
			l = l[:i]
		}
	}
	return lex.Show(l)
}

// token makes a token of any kind.
func (g generator) token() lex.Token {
	return pick(g,
		lex.Token{Kind: lex.Word, Text: pick(g, words()...)},
		lex.Token{Kind: lex.Sign, Text: pick(g, signs()...)},
		lex.Token{Kind: lex.Sign, Text: pick(g, "(", ")", ",", "-", ".", ":-", "=")},
		lex.Token{Kind: lex.Name, Text: pick(g, g.longName(), pick(g, reserved()[len(words()):]...), "a.int", "len.a")},
		lex.Token{Kind: lex.Variable, Text: g.variable()},
		lex.Token{Kind: lex.Any, Text: "_"},
		lex.Token{Kind: lex.Int, Text: pick(g, "0", "1", "1", "9223372036854775807", "9223372036854775808", "9223372036854775809")},
		lex.Token{Kind: lex.Big, Text: pick(g, "0", "99999999999999999999")},
		lex.Token{Kind: lex.Text, Text: pick(g, "", "(", "not", "a")},
		lex.Token{Kind: lex.Field, Text: pick(g, "f", "len", "tuple")},
	)
}

// TestP7_4Brackets writes each expression without brackets that it doesn't need, and with many others.
func TestP7_4Brackets(t *testing.T) {
	t.Parallel()
	g := newGenerator(5)
	for range 4000 {
		want := g.expr(4)
		plain := textOfExpr(g, &want, 0)
		for _, s := range []string{"(" + plain + ")", "((" + plain + "))", textOfExpr(g, &want, 2+g.IntN(4))} {
			if x := exprOf(t, s); !alike(x, want) {
				t.Fatalf("Expr(%q):\n%+v\nnot\n%+v, as of %q", s, x, want, plain)
			}
		}
	}
}

// TestP7_5Kinds writes the parts of each module in several orders, in which those of each kind keep theirs.
func TestP7_5Kinds(t *testing.T) {
	t.Parallel()
	g := newGenerator(6)
	for range 400 {
		want := g.module(4)
		for range 4 {
			s := textOfModule(g, &want)
			if m := moduleOf(t, s); !alike(m, want) || !tree.Same(m, want) {
				t.Fatalf("Parse(%q):\n%+v\nnot\n%+v", s, m, want)
			}
		}
	}
}

// TestP7_1RefusedByTheGrammar holds many texts, most of which are wrong, against the chapter's grammar.
func TestP7_1RefusedByTheGrammar(t *testing.T) {
	t.Parallel()
	g := newGenerator(7)
	rules := newGrammar()
	refused := 0
	for range 6000 {
		m := g.module(2)
		s := g.spoiled(textOfModule(g, &m))
		want, error := refusal(rules, "module", s)
		if error == api.OK {
			moduleOf(t, s)
			continue
		}
		refused++
		checkRefused(t, s, want, error)
	}
	if refused < 3000 {
		t.Errorf("only %d", refused)
	}
}

// TestP7_2RefusedByTheGrammar does so with expressions.
func TestP7_2RefusedByTheGrammar(t *testing.T) {
	t.Parallel()
	g := newGenerator(8)
	rules := newGrammar()
	refused := 0
	for range 16000 {
		x := g.expr(4)
		s := g.spoiled(textOfExpr(g, &x, 4))
		if g.chance(4) {
			s = lex.Show(many(g, 0, 6, g.token))
		}
		want, error := refusal(rules, "E", s)
		if error == api.OK {
			exprOf(t, s)
			continue
		}
		refused++
		checkNoExpr(t, s, want, error)
	}
	if refused < 8000 {
		t.Errorf("only %d", refused)
	}
}
