package module_test

import (
	"strings"
	"testing"

	"corollary/api"
	"corollary/module"
)

// typePlaces are texts each of which uses a name of a type, NAME, at some place, and is wrong at ^ if that has no meaning.
func typePlaces() []string {
	return []string{
		"^type u = v(NAME)", "^type u = v | w(int, x: NAME)", "^type u('p) = v('p, ('p, NAME))", "^pub type u = v(int, NAME)", "^type u('p) = v(u(u(NAME)))", "^type u = v(u(int, NAME, text))",
		"^rel o(x: NAME)", "^input o(x: int, y: ((int, NAME), bool))", "^pub rel o(x: NAME(int, NAME))", "^pub input o(x: NAME)",
	}
}

// consPlaces are likewise for names of constructors.
func consPlaces() []string {
	var l []string
	for _, s := range []string{"^NAME", "(1, ^NAME)", "neg(^NAME)", "1 + 2 * ^NAME", "(^NAME).f", "if true then X else ^NAME", "not ^NAME", "(((1, ^NAME), 2), 3)", "(X, ^NAME(1, X))"} {
		l = append(l, "s("+s+").", "s(1, sum("+s+")) :- X = 1.", "s() :- X = "+s+".", "s() :- true, (X, "+s+") == Y.", "never o :- 1 == ("+s+").", "never o :- s(), X = "+s+".")
	}
	for _, s := range []string{"^NAME", "(1, ^NAME)", "((_, ^NAME(X)), 2)", "X, ^NAME"} {
		l = append(l, "s() :- s("+s+").", "s() :- s(X), not s(1, "+s+").", "never o :- s("+s+").", "never o :- true, not s("+s+").")
	}
	return l
}

// relPlaces are likewise for names of relations in bodies.
func relPlaces() []string {
	return []string{
		"s() :- ^NAME().", "s() :- ^not NAME().", "s(X) :- true, ^NAME(X, 1), s(X).", "s() :- s(), s(), ^not NAME(_).", "s() :- s(). s() :- X = 1, ^NAME(X).",
		"never o :- ^NAME().", "never o :- ^not NAME().", "never o :- s(), not s(), ^NAME(1).", "never o :- true. never u :- true, ^not NAME(X).",
	}
}

// sample is of a kind of names: where they are used, how d is declared as one, visible or not, and as all others.
type sample struct {
	places    []string
	pub, own  string
	otherwise string
}

func samples() []sample {
	return []sample{
		{typePlaces(), "pub type d = k0", "type d = k0", "pub type e = d pub rel d() d() :- true. never d :- d()."},
		{consPlaces(), "pub type t0 = k0 | d(int)", "type t0 = k0 | d(int)", "pub type d = k0 pub rel d() d() :- true. never d :- d()."},
		{relPlaces(), "pub rel d()", "input d()", "pub type d = d never d :- true."},
	}
}

// textOf is the text of module m, which has a name at a place, and declares the relation s.
func textOf(place, name, imports, more string) string {
	return "module m " + imports + " rel s() " + more + " " + strings.ReplaceAll(place, "NAME", name)
}

// TestP8_1OwnNames has names of the module's own, visible or not, with and without its name before them.
func TestP8_1OwnNames(t *testing.T) {
	for _, d := range samples() {
		for _, place := range d.places {
			for _, own := range []string{d.pub, d.own} {
				for _, others := range [][]string{nil, {"module b " + d.pub}} {
					texts := append([]string{textOf(place, "d", "", own)}, others...)
					checkAccepted(t, texts...)
					without := strings.ReplaceAll(texts[0], "^", "")
					checkSame(t, append([]string{without}, others...), append([]string{strings.ReplaceAll(textOf(place, "m.d", "", own), "^", "")}, others...))
				}
			}
			checkRefusedAt(t, api.ErrName, textOf(place, "d", "", ""))
			checkRefusedAt(t, api.ErrName, textOf(place, "m.d", "", ""))
			checkRefusedAt(t, api.ErrName, textOf(place, "d", "", d.otherwise))
			checkRefusedAt(t, api.ErrName, textOf(place, "m.d", "", d.otherwise))
		}
	}
}

// checkSame requires that two lists of modules have the same program, apart from positions.
func checkSame(t *testing.T, a, b []string) {
	t.Helper()
	first, _ := modulesOf(t, a...)
	second, _ := modulesOf(t, b...)
	if p, q := flat(t, first...), flat(t, second...); !alike(p, q) {
		t.Errorf("%q, %q:\n%s\nnot\n%s", a, b, brief(shown(p)), brief(shown(q)))
	}
}

// TestP8_1NamesOfOthers has names of other modules: only what they declare, is visible, and is imported has a meaning.
func TestP8_1NamesOfOthers(t *testing.T) {
	for _, d := range samples() {
		for _, place := range d.places {
			with, without := textOf(place, "b.d", "import b", ""), textOf(place, "b.d", "", "")
			visible, hidden, other := "module b "+d.pub, "module b "+d.own, "module b "+d.otherwise
			checkAccepted(t, with, visible)
			checkAccepted(t, visible, with)
			checkAccepted(t, textOf(place, "b.d", "import a import b", d.own), "module a", visible)
			checkRefusedAt(t, api.ErrName, with, hidden)
			checkRefusedAt(t, api.ErrName, hidden, with)
			checkRefusedAt(t, api.ErrName, with, other)
			checkRefusedAt(t, api.ErrName, with, "module b")
			checkRefusedAt(t, api.ErrName, without, visible)
			checkRefusedAt(t, api.ErrName, visible, without)
			checkRefusedAt(t, api.ErrName, without)
			checkRefusedAt(t, api.ErrName, textOf(place, "d", "import b", ""), visible)
			checkRefusedAt(t, api.ErrName, textOf(place, "m.d", "import b", ""), visible)
			checkRefusedAt(t, api.ErrName, textOf(place, "b.d", "import b", d.pub), "module b")
			checkRefusedAt(t, api.ErrName, textOf(place, "c.d", "import b", ""), visible, "module c "+d.pub)
			checkRefusedAt(t, api.ErrName, textOf(place, "b.d", "import c", ""), visible, "module c import b "+d.pub)
			checkRefusedAt(t, api.ErrName, textOf(place, "b.d", "", ""), strings.Replace(visible, "module b", "module b import m", 1))
			checkRefusedAt(t, api.ErrName, textOf(place, "c.d", "import b", ""), "module b import c", "module c "+d.pub)
			checkRefusedAt(t, api.ErrName, textOf(place, "b.e", "import b", ""), visible)
			checkRefusedAt(t, api.ErrName, textOf(place, "d.d", "import b", d.pub), visible)
		}
	}
}

// TestP8_1ConstructorsAreVisibleAsTheirTypes has several types, each visible or not.
func TestP8_1ConstructorsAreVisibleAsTheirTypes(t *testing.T) {
	types := func(first, second string) string {
		return "module b " + first + " type t = x | d | y " + second + " type u = z | w"
	}
	for name, visible := range map[string]int{"x": 1, "d": 1, "y": 1, "z": 2, "w": 2, "t": 0, "u": 0} {
		for n, b := range []string{types("", ""), types("pub", ""), types("", "pub"), types("pub", "pub")} {
			text := textOf("s() :- X = (1, ^b."+name+").", "", "import b", "")
			if n&visible > 0 {
				checkAccepted(t, text, b)
			} else {
				checkRefusedAt(t, api.ErrName, text, b)
			}
		}
	}
}

// TestP8_1Heads has rules whose relations are the module's own, or not.
func TestP8_1Heads(t *testing.T) {
	b := "module b pub rel d() pub rel s() pub type e = f never g :- true."
	for _, own := range []string{"s", "m.s"} {
		checkProgram(t, "module m rel m__s() pub rel b__d() pub rel b__s() pub type b__e = b__f m.s() :- b.d(). m.s() :- true. never b__g :- true.", "module m import b rel s() "+own+"() :- b.d(). "+own+"() :- true.", b)
		checkProgram(t, "module b pub rel b__d() pub rel b__s() pub type b__e = b__f rel m__s() m.s(). never b__g :- true.", b, "module m rel s() "+own+"().")
	}
	for _, head := range []string{"b.d", "b.s", "d", "m.d", "b.t", "b.f", "e", "f", "g", "b.g", "b.m", "m.m", "m", "b", "s.s", "c.s", "b.b"} {
		checkRefusedAt(t, api.ErrName, "module m import b rel s() s() :- true.\n  ^"+head+"() :- true.", b)
		checkRefusedAt(t, api.ErrName, b, "module m import b rel s() s() :- true.\n  ^"+head+"() :- true.")
		checkRefusedAt(t, api.ErrName, "module m rel s() ^"+head+"() :- true.", b)
	}
	for _, own := range []string{"e", "f", "g", "m.e", "m.f", "m.g"} {
		checkRefusedAt(t, api.ErrName, "module m rel s() type e = f never g :- true. ^"+own+"().")
	}
}

// TestP8_1TheSameNames has one name as a type, a constructor, a relation and a never, in several modules.
func TestP8_1TheSameNames(t *testing.T) {
	checkProgram(t, `module a
		pub type a__a = a__a(a.a) | a__b(b.a) pub rel a__a(a: a.a, b: b.a)
		pub type b__a = b__a | b__b(b.b, b.a) pub type b__b = b__c pub rel b__a(a: b.a) pub rel b__b(b: b.b)
		type c__b = c__a(a.a, b.a, c.b) rel c__b(c: c.b)
		a.a(a.a(a.b(b.a)), b.a) :- a.a(a.a(X), b.b(X, b.a)), b.a(b.a), b.b(b.c), X == a.a(X).
		c.b(c.a(a.a(X), b.a, X)) :- a.a(a.b(X), b.a), b.a(b.b(b.c, X)), b.b(X), c.b(c.a(X, X, X)).
		never a__a :- a.a(a.a(X), b.a), b.a(X). never a__b :- X = b.b(b.c, X).
		never b__a :- b.a(b.a). never b__b :- b.b(b.a).
		never c__b :- c.b(c.a(a.a(X), b.a, X)), a.a(X, X), b.a(X).`,
		`module a import b
		pub type a = a(a) | b(b.a) pub rel a(a: a, b: b.a)
		a(a(b(b.a)), b.a) :- a(a(X), b.b(X, b.a)), b.a(b.a), b.b(b.c), X == a(X).
		never a :- a(a(X), b.a), b.a(X). never b :- X = b.b(b.c, X).`,
		`module b
		pub type a = a | b(b, a) pub type b = c pub rel a(a: a) pub rel b(b: b)
		never a :- a(a). never b :- b(a).`,
		`module c import b import a
		type b = a(a.a, b.a, b) rel b(c: b)
		b(a(a.a(X), b.a, X)) :- a.a(a.b(X), b.a), b.a(b.b(b.c, X)), b.b(X), b(a(X, X, X)).
		never b :- b(a(a.a(X), b.a, X)), a.a(X, X), b.a(X).`)
}

// TestP8_1TypesThatMeanThemselves has them at each depth, also where all names are declared otherwise.
func TestP8_1TypesThatMeanThemselves(t *testing.T) {
	checkProgram(t, "module m type m__t('a, 'b) = m__c(bool, int, big, text, (), 'a, 'b) | m__d(m.t((bool, int), (big, (text, ('b, 'a))))) rel m__r(a: bool, b: int, c: big, d: text, e: (), f: (int, m.t(int, ())))",
		"module m type t('a, 'b) = c(bool, int, big, text, (), 'a, 'b) | d(t((bool, int), (big, (text, ('b, 'a))))) rel r(a: bool, b: int, c: big, d: text, e: (), f: (int, m.t(int, ())))")
	for _, s := range strings.Fields("a b t bools in bigs texts tupl m m.a a.b") {
		checkRefusedAt(t, api.ErrName, "module m ^rel r(x: "+s+")")
		checkRefusedAt(t, api.ErrName, "module m rel r(x: ()) ^type u('a) = v('a, (int, "+s+"))")
	}
	checkRefusedAt(t, api.ErrName, "module m ^type t('a) = c(a)")
	checkRefusedAt(t, api.ErrName, "module m ^type t('a) = c(m.a)")
}

// TestP8_1WithoutADot has modules named as what is declared in others: a name without a dot is never one of these.
func TestP8_1WithoutADot(t *testing.T) {
	checkRefusedAt(t, api.ErrName, "module m import p ^rel r(x: p)", "module p pub type p = p")
	checkRefusedAt(t, api.ErrName, "module m import p rel r(x: p.p) r(^p) :- true.", "module p pub type p = p")
	checkRefusedAt(t, api.ErrName, "module m import p rel r() r() :- ^p().", "module p pub rel p()")
	checkProgram(t, "module m rel m__p(x: p.p) pub type p__p = p__p pub rel p__p(x: p.p) m.p(p.p) :- m.p(p.p), p.p(p.p).", "module m import p rel p(x: p.p) p(p.p) :- p(p.p), p.p(p.p).", "module p pub type p = p pub rel p(x: p)")
}

// TestP8_1Chapter are its own examples.
func TestP8_1Chapter(t *testing.T) {
	graph, base := "module graph\nimport base\nrel p(x: int)\np(X) :- ^base.e(X).", "module base\npub input e(x: int)"
	checkProgram(t, "module graph rel graph__p(x: int) pub input base__e(x: int) graph.p(X) :- base.e(X).", strings.Replace(graph, "^", "", 1), base)
	checkRefusedAt(t, api.ErrName, graph, "module base\ninput e(x: int)")
	checkRefusedAt(t, api.ErrName, strings.Replace(graph, "import base", "", 1), base)
	checkRefusedAt(t, api.ErrCycle, "module graph\n^import base\nrel p(x: int)\np(X) :- base.e(X).", "module base\nimport graph\npub input e(x: int)")
	checkRefusedAt(t, api.ErrTwice, "module graph\nrel p(x: int)\n^rel p(x: int)")
	checkRefusedAt(t, api.ErrName, "module graph\nimport base\nrel p(x: int)\np(X) :- base.e(X).\n^base.e(X) :- p(X).", base)
	program, at, e := module.Flatten(nil)
	if e != api.ErrArg || at != (module.Where{}) || program.Name != "" {
		t.Error(program, at, e)
	}
}
