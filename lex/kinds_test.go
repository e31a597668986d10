package lex_test

import (
	"strings"
	"testing"

	"corollary/api"
	"corollary/lex"
)

func TestP5_1TheNumbersOfTheKinds(t *testing.T) {
	for i, kind := range []uint8{lex.Word, lex.Name, lex.Variable, lex.Any, lex.Int, lex.Big, lex.Text, lex.Sign, lex.Field} {
		if int(kind) != i+1 {
			t.Errorf("kind %d is %d", i+1, kind)
		}
	}
}

func TestP5_1TheExample(t *testing.T) {
	l := tokensOf(t, "a(X) :- b.c(X, _), X >= 12b. # x")
	at := func(col int, x lex.Token) lex.Token {
		x.Pos = api.Pos{Line: 1, Col: col}
		return x
	}
	want := []lex.Token{
		at(1, name("a")), at(2, sign("(")), at(3, variable("X")), at(4, sign(")")), at(6, sign(":-")), at(9, name("b.c")), at(12, sign("(")), at(13, variable("X")), at(14, sign(",")), at(16, anything()), at(17, sign(")")), at(18, sign(",")),
		at(20, variable("X")), at(22, sign(">=")), at(25, long("12")), at(28, sign(".")),
	}
	if len(l) != len(want) {
		t.Fatalf("%d tokens", len(l))
	}
	for i, x := range l {
		if x != want[i] {
			t.Errorf("token %d: %v, not %v", i, x, want[i])
		}
	}
}

// TestP5_1Words has each of them alone, and beside what makes it something else, or does not.
func TestP5_1Words(t *testing.T) {
	for _, w := range words() {
		checkTokens(t, w, word(w))
		for _, s := range []string{w + "s", w + "S", w + "0", w + "_", "a" + w, "a_" + w, w + w} {
			checkTokens(t, s, name(s))
			checkTokens(t, "."+s, field(s))
			checkTokens(t, "a."+s, name("a."+s))
			checkTokens(t, s+".a", name(s+".a"))
		}
		first := w[:len(w)-1]
		checkTokens(t, first, name(first))
		capitalized := strings.ToUpper(w[:1]) + w[1:]
		checkTokens(t, capitalized, variable(capitalized))
		checkTokens(t, strings.ToUpper(w), variable(strings.ToUpper(w)))
		checkTokens(t, w+".a", word(w), field("a"))
		checkTokens(t, w+".a.b", word(w), field("a"), field("b"))
		checkTokens(t, "a."+w, name("a"), sign("."), word(w))
		checkTokens(t, "a.b."+w, name("a.b"), sign("."), word(w))
		checkTokens(t, "X."+w, variable("X"), sign("."), word(w))
		checkTokens(t, "."+w, sign("."), word(w))
		checkTokens(t, "a."+w+".b", name("a"), sign("."), word(w), field("b"))
		checkTokens(t, w+"."+w, word(w), sign("."), word(w))
		checkTokens(t, w+"("+w+`"`+w+`"`+w, word(w), sign("("), word(w), text(w), word(w))
		checkTokens(t, w+" "+w+"\n"+w, word(w), word(w), word(w))
		checkRefused(t, "_"+w, 1, 1, api.ErrForm)
		checkRefused(t, "1"+w, 1, 1, api.ErrForm)
	}
}

// TestP5_1NamesThatAreNoWords has those, too, that the language has another use for.
func TestP5_1NamesThatAreNoWords(t *testing.T) {
	for _, s := range strings.Fields("neg len big int bool text tuple a z aa a_ a0 aB abcdefghijklmnopqrstuvwxyz zABCDEFGHIJKLMNOPQRSTUVWXYZ a0123456789 z__9 b b1 x x41 n nil cons list rule module_ nott pubs xor modul") {
		checkTokens(t, s, name(s))
		checkTokens(t, "."+s, field(s))
		checkTokens(t, "m."+s, name("m."+s))
		checkTokens(t, s+".m", name(s+".m"))
		checkTokens(t, s+"."+s, name(s+"."+s))
		checkTokens(t, s+"."+s+"."+s+"."+s, name(s+"."+s), field(s), field(s))
	}
}

func TestP5_1Variables(t *testing.T) {
	for _, s := range strings.Fields("A Z X XY Xy X_ X0 X_0_ XABCDEFGHIJKLMNOPQRSTUVWXYZ ZabcDefghijklmnopqrstuvwxyz A0123456789 Not TRUE B B1") {
		checkTokens(t, s, variable(s))
		checkTokens(t, s+".a", variable(s), field("a"))
		checkTokens(t, s+".a.b", variable(s), field("a"), field("b"))
		checkTokens(t, s+"."+s, variable(s), sign("."), variable(s))
		checkTokens(t, "a."+s, name("a"), sign("."), variable(s))
		checkTokens(t, "."+s, sign("."), variable(s))
		checkRefused(t, "_"+s, 1, 1, api.ErrForm)
		checkRefused(t, "7"+s, 1, 1, api.ErrForm)
	}
}

func TestP5_1Numbers(t *testing.T) {
	for _, s := range strings.Fields("0 1 9 10 12 100 1000000 1234567890 9223372036854775807 9223372036854775808 99999999999999999999999") {
		checkTokens(t, s, num(s))
		checkTokens(t, s+"b", long(s))
		checkTokens(t, "-"+s, sign("-"), num(s))
		checkTokens(t, "-"+s+"b", sign("-"), long(s))
		checkTokens(t, s+"."+s+"b."+s, num(s), sign("."), long(s), sign("."), num(s))
		checkTokens(t, s+".a", num(s), field("a"))
		checkTokens(t, s+"b.b", long(s), field("b"))
		checkTokens(t, "a."+s, name("a"), sign("."), num(s))
		for _, wrong := range []string{"0" + s, "00" + s, "0" + s + "b", s + "a", s + "c", s + "B", s + "X", s + "_", s + "_0", s + "ab", s + "ba", s + "bb", s + "bB", s + "b_", s + "b0", s + "b9", s + "e5", s + "x1", s + "not", s + "bnot", "_" + s} {
			checkRefused(t, wrong, 1, 1, api.ErrForm)
			checkRefused(t, "a + "+wrong, 1, 5, api.ErrForm)
			checkRefused(t, wrong+" b", 1, 1, api.ErrForm)
		}
	}
}

func TestP5_1Signs(t *testing.T) {
	for _, s := range signs() {
		checkTokens(t, s, sign(s))
		checkTokens(t, s+" "+s, sign(s), sign(s))
		checkTokens(t, "X"+s+"Y", variable("X"), sign(s), variable("Y"))
		checkTokens(t, "1"+s+"2", num("1"), sign(s), num("2"))
		checkTokens(t, "_"+s+"_", anything(), sign(s), anything())
		checkTokens(t, `"a"`+s+`"b"`, text("a"), sign(s), text("b"))
		if s != "." {
			checkTokens(t, "a"+s+"b", name("a"), sign(s), name("b"))
		}
	}
}

// TestP5_1SignsOfTwoBytes has each two of the signs of one byte side by side.
func TestP5_1SignsOfTwoBytes(t *testing.T) {
	l := strings.Split("(),.:=|<>+-*/%'", "")
	for _, a := range l {
		for _, b := range l {
			switch a + b {
			case ":-", "==", "<=", ">=", "++":
				checkTokens(t, a+b, sign(a+b))
				checkTokens(t, a+" "+b, sign(a), sign(b))
			default:
				checkTokens(t, a+b, sign(a), sign(b))
			}
		}
	}
}

func TestP5_1SignsSideBySide(t *testing.T) {
	for s, want := range map[string]string{
		"<-": "< -", "->": "- >", "=>": "= >", "=<": "= <", ":=": ": =", ":--": ":- -", "::-": ": :-", ":-:-": ":- :-", "-:": "- :", "- :-": "- :-", ": -": ": -", "===": "== =", "====": "== ==", "=====": "== == =", "!==": "!= =", "!=!=": "!= !=", "=!=": "= !=",
		"<=>": "<= >", "<=>=": "<= >=", "<<=": "< <=", ">>=": "> >=", "><": "> <", "<>": "< >", "<==": "<= =", ">==": ">= =", "> =": "> =", "< =": "< =", "= =": "= =", "+++": "++ +", "++++": "++ ++", "+ +": "+ +", "+-": "+ -", "-+": "- +", "--": "- -", "...": ". . .",
		"||": "| |", "//": "/ /", "**": "* *", "''": "' '", "()": "( )", "((": "( (", "(,)": "( , )", ".:-": ". :-", ":.": ": .", "%%": "% %", ".,": ". ,",
	} {
		var l []lex.Token
		for _, x := range strings.Fields(want) {
			l = append(l, sign(x))
		}
		checkTokens(t, s, l...)
		checkTokens(t, "X "+s+"\t_", append(append([]lex.Token{variable("X")}, l...), anything())...)
	}
	for _, s := range []string{"!", "!<", "! =", "!!=", "!a"} {
		checkRefused(t, s, 1, 1, api.ErrForm)
	}
	checkRefused(t, "==!", 1, 3, api.ErrForm)
	checkRefused(t, "=! =", 1, 2, api.ErrForm)
}

// TestP5_1TheLongest has texts of which several tokens are beginnings.
func TestP5_1TheLongest(t *testing.T) {
	for _, x := range []struct {
		s    string
		want []lex.Token
	}{
		{"a..b", []lex.Token{name("a"), sign("."), field("b")}}, {"a.not", []lex.Token{name("a"), sign("."), word("not")}}, {"a. b", []lex.Token{name("a"), sign("."), name("b")}}, {"a .b", []lex.Token{name("a"), field("b")}}, {"a . b", []lex.Token{name("a"), sign("."), name("b")}},
		{"a.b", []lex.Token{name("a.b")}}, {"a.b.c", []lex.Token{name("a.b"), field("c")}}, {"a.b.c.d", []lex.Token{name("a.b"), field("c"), field("d")}}, {"a.b c.d", []lex.Token{name("a.b"), name("c.d")}}, {".a.b", []lex.Token{field("a"), field("b")}}, {"..a", []lex.Token{sign("."), field("a")}},
		{"a.", []lex.Token{name("a"), sign(".")}}, {"a.b.", []lex.Token{name("a.b"), sign(".")}}, {"a...b", []lex.Token{name("a"), sign("."), sign("."), field("b")}}, {"a.b..c", []lex.Token{name("a.b"), sign("."), field("c")}}, {"a.#\nb", []lex.Token{name("a"), sign("."), name("b")}}, {"a#\n.b", []lex.Token{name("a"), field("b")}},
		{"a._", []lex.Token{name("a"), sign("."), anything()}}, {"a.X", []lex.Token{name("a"), sign("."), variable("X")}}, {"a.1", []lex.Token{name("a"), sign("."), num("1")}}, {"a.1b", []lex.Token{name("a"), sign("."), long("1")}}, {`a."b"`, []lex.Token{name("a"), sign("."), text("b")}}, {"a.(b)", []lex.Token{name("a"), sign("."), sign("("), name("b"), sign(")")}},
		{"(a).b.c", []lex.Token{sign("("), name("a"), sign(")"), field("b"), field("c")}}, {"a.b(c.d).e", []lex.Token{name("a.b"), sign("("), name("c.d"), sign(")"), field("e")}}, {"_.a", []lex.Token{anything(), field("a")}}, {`"".a`, []lex.Token{text(""), field("a")}}, {"a.b:c", []lex.Token{name("a.b"), sign(":"), name("c")}},
		{"12b", []lex.Token{long("12")}}, {"12 b", []lex.Token{num("12"), name("b")}}, {"12", []lex.Token{num("12")}}, {"12.b", []lex.Token{num("12"), field("b")}}, {"1 2", []lex.Token{num("1"), num("2")}}, {"0 0", []lex.Token{num("0"), num("0")}}, {"0.0", []lex.Token{num("0"), sign("."), num("0")}}, {"0-0b", []lex.Token{num("0"), sign("-"), long("0")}},
		{`1"a"`, []lex.Token{num("1"), text("a")}}, {`1b"a"2`, []lex.Token{long("1"), text("a"), num("2")}}, {`a"b"c`, []lex.Token{name("a"), text("b"), name("c")}}, {`""""`, []lex.Token{text(""), text("")}}, {`"a""b"`, []lex.Token{text("a"), text("b")}}, {`_"a"_`, []lex.Token{anything(), text("a"), anything()}},
		{"_", []lex.Token{anything()}}, {"_ _", []lex.Token{anything(), anything()}}, {"_,_", []lex.Token{anything(), sign(","), anything()}}, {"a_", []lex.Token{name("a_")}}, {"X_", []lex.Token{variable("X_")}}, {"_ a", []lex.Token{anything(), name("a")}}, {"not_a", []lex.Token{name("not_a")}}, {"not _", []lex.Token{word("not"), anything()}},
		{"aX", []lex.Token{name("aX")}}, {"Xa", []lex.Token{variable("Xa")}}, {"X a", []lex.Token{variable("X"), name("a")}}, {"aB.cD", []lex.Token{name("aB.cD")}}, {"'a", []lex.Token{sign("'"), name("a")}}, {"'a.b", []lex.Token{sign("'"), name("a.b")}}, {"a'b", []lex.Token{name("a"), sign("'"), name("b")}},
		{"not(a)", []lex.Token{word("not"), sign("("), name("a"), sign(")")}}, {"-1", []lex.Token{sign("-"), num("1")}}, {"a-1", []lex.Token{name("a"), sign("-"), num("1")}}, {"X:-1", []lex.Token{variable("X"), sign(":-"), num("1")}}, {"X: -1", []lex.Token{variable("X"), sign(":"), sign("-"), num("1")}}, {"X<-1", []lex.Token{variable("X"), sign("<"), sign("-"), num("1")}},
	} {
		checkTokens(t, x.s, x.want...)
	}
	for _, s := range []string{"1a", "12a", "12bb", "012", "00", "0b0", "01b", "1_", "1b_", "_a", "__", "_0", "_A", "_not", "0x1", "$", "@", "&", "^", "~", "`", "?", ";", "[", "]", "{", "}", "\\"} {
		checkRefused(t, s, 1, 1, api.ErrForm)
		checkRefused(t, " "+s+" ", 1, 2, api.ErrForm)
		checkRefused(t, "a.b\n\n("+s+")", 3, 2, api.ErrForm)
	}
}

// TestP5_1EveryByteAlone has each byte as a whole text.
func TestP5_1EveryByteAlone(t *testing.T) {
	for n := range 256 {
		switch c := bytesOf(n); {
		case strings.Contains(small, c):
			checkTokens(t, c, name(c))
		case strings.Contains(capital, c):
			checkTokens(t, c, variable(c))
		case strings.Contains(digits, c):
			checkTokens(t, c, num(c))
		case c == "_":
			checkTokens(t, c, anything())
		case strings.Contains("(),.:=|<>+-*/%'", c):
			checkTokens(t, c, sign(c))
		case strings.Contains(blanks, c) || c == "#":
			checkTokens(t, c)
		default:
			checkRefused(t, c, 1, 1, api.ErrForm)
			checkRefused(t, "X "+c, 1, 3, api.ErrForm)
		}
	}
}

// TestP5_1EveryByteBehind has each byte directly behind tokens that it may continue, or not.
func TestP5_1EveryByteBehind(t *testing.T) {
	for n := range 256 {
		c := bytesOf(n)
		if strings.Contains(small+capital+digits+"_", c) {
			checkTokens(t, "a"+c, name("a"+c))
			checkTokens(t, "X"+c, variable("X"+c))
			checkTokens(t, ".a"+c, field("a"+c))
			checkTokens(t, "m.a"+c, name("m.a"+c))
			checkTokens(t, "not"+c, name("not"+c))
			checkRefused(t, "_"+c, 1, 1, api.ErrForm)
			checkRefused(t, "7b"+c, 1, 1, api.ErrForm)
			continue
		}
		for _, x := range []lex.Token{name("a"), variable("X"), field("a"), name("m.a"), word("not"), anything(), num("7"), num("0"), long("7"), text("a")} {
			s := lex.Show([]lex.Token{x})
			switch {
			case strings.Contains("(),.:=|<>+-*/%'", c):
				checkTokens(t, s+c, x, sign(c))
			case strings.Contains(blanks, c) || c == "#":
				checkTokens(t, s+c, x)
			default:
				checkRefused(t, s+c, 1, 1+len(s), api.ErrForm)
			}
		}
	}
}

func TestP5_1EveryByteBehindDigits(t *testing.T) {
	for n := range 256 {
		switch c := bytesOf(n); {
		case strings.Contains(digits, c):
			checkTokens(t, "7"+c, num("7"+c))
			checkRefused(t, "0"+c, 1, 1, api.ErrForm)
		case c == "b":
			checkTokens(t, "7"+c, long("7"))
			checkTokens(t, "0"+c, long("0"))
		case strings.Contains(small+capital+"_", c):
			checkRefused(t, "7"+c, 1, 1, api.ErrForm)
			checkRefused(t, "0"+c, 1, 1, api.ErrForm)
		}
	}
}
