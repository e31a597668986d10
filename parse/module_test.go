package parse_test

import (
	"strings"
	"testing"

	"corollary/api"
)

func TestP7_1TheNameAlone(t *testing.T) {
	for _, s := range []string{"module m", " module m ", "module\nm\n", "# a\nmodule # b\n m# c", "\tmodule\r\nm"} {
		checkModule(t, s)
	}
}

func TestP7_1Imports(t *testing.T) {
	checkModule(t, "module m import a", "import a")
	checkModule(t, "module m import a import b", "import a", "import b")
	checkModule(t, "module m import b import a import b", "import b", "import a", "import b")
	checkModule(t, "module m import m", "import m")
	checkModule(t, "module m\nimport a\nimport b\np().", "import a", "import b", "p().")
}

func TestP7_1Types(t *testing.T) {
	checkModule(t, "module m type t = c", "type t = c")
	checkModule(t, "module m pub type t = c", "pub type t = c")
	checkModule(t, "module m type t('a) = c", "type t('a) = c")
	checkModule(t, "module m pub type t('a, 'b, 'a) = c", "pub type t('a, 'b, 'a) = c")
	checkModule(t, "module m type t = c | d", "type t = c | d")
	checkModule(t, "module m type t = c | d | c", "type t = c | d | c")
	checkModule(t, "module m type t = c(int)", "type t = c(int)")
	checkModule(t, "module m type t = c(f: int)", "type t = c(f: int)")
	checkModule(t, "module m type t = c(int, f: int, g: t, t)", "type t = c(int, f: int, g: t, t)")
	checkModule(t, "module m type t = a | b(int) | c(f: t) | d", "type t = a | b(int) | c(f: t) | d")
	checkModule(t, "module m pub type list('a) = nil | cons(head: 'a, tail: list('a))", "pub type list('a) = nil | cons(head: 'a, tail: list('a))")
	checkModule(t, "module m type t = c type t = d", "type t = c", "type t = d")
}

func TestP7_1Relations(t *testing.T) {
	checkModule(t, "module m rel p()", "rel p()")
	checkModule(t, "module m pub rel p()", "pub rel p()")
	checkModule(t, "module m input p()", "input p()")
	checkModule(t, "module m pub input p()", "pub input p()")
	checkModule(t, "module m rel p(x: int)", "rel p(x: int)")
	checkModule(t, "module m pub input p(x: int, y: t, x: 'a)", "pub input p(x: int, y: t, x: 'a)")
	checkModule(t, "module m input p() rel p()", "input p()", "rel p()")
}

// kindsOfTypes are all, those with arguments with one and with several.
func kindsOfTypes() []string {
	return []string{
		"'a", "t", "m.t", "t(int)", "m.t(int)", "t(int, 'a, t)", "bool", "int", "big", "text", "()", "(int, text)", "(int, 'a, t, m.t)",
		"t(t(t))", "t((), (int, t))", "((), t(()))", "t(bool, int, big, text, 'b, m.t, (), (t, t))", "(t(int), ('a, ()))", "booleans", "in", "big1", "texts(text)",
	}
}

func TestP7_1KindsOfTypes(t *testing.T) {
	for _, s := range kindsOfTypes() {
		checkModule(t, "module m type d = c("+s+")", "type d = c("+s+")")
		checkModule(t, "module m type d = c(f: "+s+", "+s+")", "type d = c(f: "+s+", "+s+")")
		checkModule(t, "module m rel p(f: "+s+")", "rel p(f: "+s+")")
		checkModule(t, "module m input p(f: int, g: "+s+")", "input p(f: int, g: "+s+")")
		checkModule(t, "module m rel p(f: t("+s+", ("+s+", "+s+")))", "rel p(f: t("+s+", ("+s+", "+s+")))")
	}
	checkModule(t, "module m rel p(f: ' # a\n a)", "rel p(f: 'a)")
}

// TestP7_1NamesBeforeAColon has names in parts that are those of fields, or types, as a : is directly behind them or not.
func TestP7_1NamesBeforeAColon(t *testing.T) {
	checkModule(t, "module m type t = c(a: b, a, a: a, b)", "type t = c(a: b, a, a: a, b)")
	checkModule(t, "module m type t = c(a # c\n : b)", "type t = c(a: b)")
	checkModule(t, "module m type t = c(a: b.c(d))", "type t = c(a: b.c(d))")
	for _, s := range []string{"a.b", "int", "bool", "big", "text", "tuple", "neg", "len", "a.int", "int.a"} {
		checkRefusedAt(t, "module m type t = c(^"+s+": int)", api.ErrForm)
		checkRefusedAt(t, "module m type t = c(int, ^"+s+": )", api.ErrForm)
		checkRefusedAt(t, "module m rel p(^"+s+": int)", api.ErrForm)
	}
	for _, s := range []string{"a.b", "int", "bool", "big", "text"} {
		checkModule(t, "module m type t = c("+s+")", "type t = c("+s+")")
		checkRefusedAt(t, "module m rel p(^"+s+")", api.ErrForm)
	}
	for _, s := range []string{"a(int)^:", "()^:", "'a^:", "a: b^:", "t(a^: int)", "t(int^: int)", "(a^: int, int)", "t(a.b^: int)", "a: t(a^: int)"} {
		checkRefusedAt(t, "module m type t = c("+s+" int)", api.ErrForm)
	}
	checkRefusedAt(t, "module m type t = c(a ^:- int)", api.ErrForm)
	checkRefusedAt(t, "module m type t = c(^X: int)", api.ErrForm)
	checkRefusedAt(t, "module m type t = c(^not: int)", api.ErrForm)
	checkRefusedAt(t, "module m type t = c(^\"a\": int)", api.ErrForm)
}

func TestP7_1Rules(t *testing.T) {
	checkModule(t, "module m p().", "p().")
	checkModule(t, "module m p(X).", "p(X).")
	checkModule(t, "module m p(X, 1, \"a\").", "p(X, 1, \"a\").")
	checkModule(t, "module m a.p(X).", "a.p(X).")
	checkModule(t, "module m p() :- q().", "p() :- q().")
	checkModule(t, "module m p() :- q(), r(X).", "p() :- q(), r(X).")
	checkModule(t, "module m p(X) :- q(X, _), X = 1, not r(X), X > 2.", "p(X) :- q(X, _), X = 1, not r(X), (X > 2).")
	checkModule(t, "module m p(). p(). q().", "p().", "p().", "q().")
}

func TestP7_1Arguments(t *testing.T) {
	for _, aggregate := range aggregates() {
		checkModule(t, "module m p("+aggregate+"(X)).", "p("+aggregate+"(X)).")
		checkModule(t, "module m p(X, "+aggregate+"(Y + 1), Z, "+aggregate+"((1, 2))).", "p(X, "+aggregate+"((Y + 1)), Z, "+aggregate+"((1, 2))).")
		checkModule(t, "module m p("+aggregate+"(if X then 1 else 2)).", "p("+aggregate+"((if X then 1 else 2))).")
		checkModule(t, "module m p("+aggregate+"((X))).", "p("+aggregate+"(X)).")
		for _, s := range []string{"^)", "X^,", "X^, Y)", "X^.", "^" + aggregate + "(X))", "1 + ^" + aggregate + "(X)", "f(^" + aggregate + "(X)"} {
			checkRefusedAt(t, "module m p("+aggregate+"("+s+").", api.ErrForm)
		}
		for _, s := range []string{"^", "^X", "^)", "^, X", "(X) ^+ 1", "(X)^.f"} {
			checkRefusedAt(t, "module m p("+aggregate+" "+s+".", api.ErrForm)
		}
		checkRefusedAt(t, "module m p() :- ^"+aggregate+"(X).", api.ErrForm)
		checkRefusedAt(t, "module m p((^"+aggregate+"(X))).", api.ErrForm)
		checkRefusedAt(t, "module m p(-^"+aggregate+"(X)).", api.ErrForm)
	}
	checkModule(t, "module m p(count(X), sum(X), min(X), max(X), X).", "p(count(X), sum(X), min(X), max(X), X).")
}

func TestP7_1Nevers(t *testing.T) {
	checkModule(t, "module m never n :- p().", "never n :- p().")
	checkModule(t, "module m never n :- p(X), X = 1, X > 2, not q(_).", "never n :- p(X), X = 1, (X > 2), not q(_).")
	checkModule(t, "module m never n :- p(). never n :- q().", "never n :- p().", "never n :- q().")
}

// kindsOfLiterals are all, and how they are printed.
func kindsOfLiterals() map[string]string {
	return map[string]string{
		"q()": "q()", "q(X)": "q(X)", "q(X, _, 1)": "q(X, _, 1)", "a.q()": "a.q()", "a.q(X)": "a.q(X)",
		"not q()": "not q()", "not q(X)": "not q(X)", "not q(X, _, 1)": "not q(X, _, 1)", "not a.q()": "not a.q()", "not a.q(X, Y)": "not a.q(X, Y)",
		"X = 1": "X = 1", "X = Y": "X = Y", "X = Y == Z": "X = (Y == Z)", "X = nil": "X = nil", "X = q(X)": "X = q(X)", "X = not q(X)": "X = (not q(X))", "X = if Y then 1 else 2": "X = (if Y then 1 else 2)", "X = (Y)": "X = Y", "X = -1": "X = -1", "X = -Y": "X = neg(Y)",
		"X": "X", "X == 1": "(X == 1)", "X.f": "X.f", "X + 1": "(X + 1)", "X < 1": "(X < 1)", "X <= 1 and true": "((X <= 1) and true)",
		"true": "true", "false": "false", "1": "1", "-1": "-1", "\"a\"": "\"a\"", "1b": "1b", "()": "()", "(1, 2)": "(1, 2)", "-X": "neg(X)", "(X)": "X", "(X) == 1": "(X == 1)",
		"(q(X))": "(q(X))", "(nil)": "(nil)", "(nil) == X": "(nil == X)", "(nil == X)": "(nil == X)", "(q(X)).f": "(q(X)).f", "(a.q)": "(a.q)",
		"not X": "(not X)", "not X == 1": "(not (X == 1))", "not (q(X))": "(not q(X))", "not not q(X)": "(not (not q(X)))", "not (nil) == X": "(not (nil == X))", "not (nil == X)": "(not (nil == X))", "not true": "(not true)", "not -X": "(not neg(X))", "not ()": "(not ())", "not not not X": "(not (not (not X)))",
		"len(X)": "len(X)", "neg(X) == 1": "(neg(X) == 1)", "int(X) < 1": "(int(X) < 1)", "big(X).f": "(big(X)).f", "not len(X)": "(not len(X))", "not int(X) == 1": "(not (int(X) == 1))",
		"if X then Y else Z": "(if X then Y else Z)", "if nil then q else q(X)": "(if nil then q else q(X))", "(if X then Y else Z) == 1": "((if X then Y else Z) == 1)",
	}
}

func TestP7_1KindsOfLiterals(t *testing.T) {
	for s, want := range kindsOfLiterals() {
		checkModule(t, "module m p() :- "+s+".", "p() :- "+want+".")
		checkModule(t, "module m p() :- q(), "+s+", "+s+".", "p() :- q(), "+want+", "+want+".")
		checkModule(t, "module m never n :- "+s+".", "never n :- "+want+".")
		checkModule(t, "module m never n :- "+s+", X.", "never n :- "+want+", X.")
	}
}

// TestP7_1LiteralsByTheirBeginnings has literals that could be others if they did not begin as they do.
func TestP7_1LiteralsByTheirBeginnings(t *testing.T) {
	for _, s := range []string{
		"nil ^== X", "nil^", "nil^, X", "nil ^= X", "nil^.", "a.nil ^== X", "q(X) ^== X", "q(X)^.f", "q() ^and X", "q(X) ^= Y", "q(X)^(X)", "q(X ^+ 1)", "q(^not X)", "q(^if X then Y else Z)",
		"not nil ^== X", "not nil^", "not nil^, X", "not a.nil^ and X", "not q(X) ^== X", "not q(X)^.f", "not q() ^and X", "not q(^-X)", "not q(^len(X))",
		"X = ^", "X = X ^= 1", "X = ^= 1", "X = 1 ^= 1", "X^ Y", "^_ = 1", "(X) ^= 1", "X.f ^= 1", "1 ^= X", "not X ^= 1", "true ^= X", "len(X) ^= 1", "-X ^= 1", "X == 1 ^= 2", "if X ^= 1", "(X ^= 1)", "^= X", "X ^:- Y",
	} {
		for _, before := range []string{"module m p() :- ", "module m p() :- q(), X = 1, ", "module m never n :- "} {
			checkRefusedAt(t, before+s+".", api.ErrForm)
		}
	}
}

// TestP7_1KindsAmongOneAnother has two of each kind in all orders.
func TestP7_1KindsAmongOneAnother(t *testing.T) {
	lines := []string{"pub type t = c", "type u = d", "rel p()", "pub input q()", "p().", "q() :- p().", "never n :- p().", "never o :- q()."}
	var permute func(chosen []string, next [4]int)
	permute = func(chosen []string, next [4]int) {
		if len(chosen) == len(lines) {
			checkModule(t, "module m "+strings.Join(chosen, " "), lines...)
			return
		}
		for kind, n := range next {
			if n < 2 {
				further := next
				further[kind]++
				permute(append(chosen, lines[2*kind+n]), further)
			}
		}
	}
	permute(nil, [4]int{})
}

func TestP7_1TheExamplesOfTheDocument(t *testing.T) {
	checkModule(t, `module m
pub type list('a) = nil | cons(head: 'a, tail: list('a))
pub input edge(from: int, to: int)
pub rel path(from: int, to: int)
rel deg(node: int, n: int)

path(X, Y) :- edge(X, Y).
path(X, Z) :- path(X, Y), edge(Y, Z).
deg(X, count(Y)) :- edge(X, Y).
never loop :- path(X, X), not edge(X, X).
`,
		"pub type list('a) = nil | cons(head: 'a, tail: list('a))",
		"pub input edge(from: int, to: int)", "pub rel path(from: int, to: int)", "rel deg(node: int, n: int)",
		"path(X, Y) :- edge(X, Y).", "path(X, Z) :- path(X, Y), edge(Y, Z).", "deg(X, count(Y)) :- edge(X, Y).",
		"never loop :- path(X, X), not edge(X, X).")
	checkRefusedAt(t, "module m\nnever loop :- path(X, X), not edge(X, X^)", api.ErrForm)
	checkModule(t, "module m p(X) :- q(X, _), X = 1, not r(X), X > 2.", "p(X) :- q(X, _), X = 1, not r(X), (X > 2).")
	checkRefusedAt(t, "module m p(X) :- nil ^== X.", api.ErrForm)
	checkRefusedAt(t, "module m p^(", api.ErrForm)
}
