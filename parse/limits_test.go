package parse_test

import (
	"strings"
	"testing"

	"corollary/api"
)

// limited is a list that may have so many, with what is around it in a text.
type limited struct {
	before, one, between, behind string
	most                         int
	excess                       api.Errno
}

func (x limited) times(n int) string {
	return x.before + strings.Repeat(x.one+x.between, n-1) + x.one
}

// separatedLists are all that have separators.
func separatedLists() []limited {
	fields := func(before, one, behind string) limited {
		return limited{before, one, ", ", behind, api.MaxFields, api.ErrForm}
	}
	items := func(before, one, behind string) limited {
		return limited{before, one, ", ", behind, api.MaxItems, api.ErrForm}
	}
	body := func(before, one string) limited {
		return limited{before, one, ", ", ".", api.MaxBody, api.ErrFull}
	}
	return []limited{
		body("module m p() :- ", "q()"), body("module m p(). p(X) :- ", "not q(X)"), body("module m p() :- q(). r() :- ", "X"), body("module m p() :- ", "X = 1"), body("module m never n :- ", "q(_)"), body("module m never n :- q(). never o :- ", "X = 1"),
		fields("module m type t(", "'a", ") = c"), {"module m pub type t = ", "c", " | ", "", api.MaxCons, api.ErrForm}, {"module m type t = ", "c(int, t)", " | ", " rel p()", api.MaxCons, api.ErrForm},
		fields("module m type t = c(", "int", ")"), fields("module m type t = b | c(", "x: 'a", ") | d"), fields("module m rel p(", "x: int", ")"), fields("module m pub input p(", "x: t", ") p()."),
		fields("module m type t = c(t(", "int", "))"), fields("module m rel p(x: t(t(", "'a", ")))"), items("module m type t = c((", "int", "))"), items("module m rel p(x: t((", "t", ")))"),
		fields("module m p(", "X", ")."), fields("module m p(", "count(X)", ") :- q()."), fields("module m p() :- q(", "_", ")."), fields("module m p() :- not q(", "1", ")."), fields("module m never n :- q(), not q(", "-1", ")."),
		fields("module m p() :- q(c(", "X", "))."), fields("module m p() :- not q(1, (2, c(", "_", ")))."), items("module m p() :- q((", "X", "))."), items("module m p() :- not q(c(1, (", "_", ")))."),
		fields("module m p(c(", "X", "))."), fields("module m p() :- X = c(c(", "-1", "))."), fields("module m p() :- (c(", "1", "))."), fields("module m never n :- X == c(", "1 + 1", ")."),
		items("module m p((", "X", "))."), items("module m p(max((", "X", ")))."), items("module m p() :- X = (1, c((", "-1", "), 1))."), items("module m never n :- (", "X == 1", ").f."), items("module m p() :- len((", "if X then Y else Z", "))."),
	}
}

func TestP7_1AsManyAsAllowed(t *testing.T) {
	for _, x := range separatedLists() {
		for n := 2; n <= x.most; n++ {
			moduleOf(t, x.times(n)+x.behind)
		}
	}
}

// TestErrorsOneTooMany has one more than allowed in each list, that begins with anything, right or wrong, and with anything behind it.
func TestErrorsOneTooMany(t *testing.T) {
	begins := append(kindsOfTokens(), "9223372036854775808", "-9223372036854775809", "- X", "((", "not not", "X = ", "q()", "c(c(")
	for _, x := range separatedLists() {
		for _, begin := range append(begins, x.one, x.one+x.between+x.one) {
			for _, behind := range []string{"", x.behind, " )", " 9223372036854775808", " X Y"} {
				checkRefusedAt(t, x.times(x.most)+x.between+"^"+begin+behind, x.excess)
			}
		}
	}
}

// TestErrorsNoneTooMany ends lists that have as many as allowed with what is wrong: nothing is too many then.
func TestErrorsNoneTooMany(t *testing.T) {
	for _, x := range separatedLists() {
		for _, behind := range []string{"^module", "^X", "^'", "^_", "^9223372036854775808", "^true", "^count"} {
			checkRefusedAt(t, x.times(x.most)+" "+behind, api.ErrForm)
			checkRefusedAt(t, x.times(x.most)+" "+behind+x.between+x.one, api.ErrForm)
		}
		before := strings.TrimRight(x.between, " ")
		checkRefusedAt(t, x.times(x.most)+" ^"+before, api.ErrForm) // the end is no token that could be one too many
		checkRefusedAt(t, x.times(x.most)+" ^"+before+" # "+x.one, api.ErrForm)
		checkRefusedAt(t, x.times(x.most-1)+x.between+"^module", api.ErrForm)
		if x.most > api.MaxFields {
			moduleOf(t, x.times(api.MaxFields+1)+x.behind)
		}
	}
}

// TestErrorsTooManyBeforeAllElse has what would be another error at the token that is one too many.
func TestErrorsTooManyBeforeAllElse(t *testing.T) {
	open := strings.Repeat("(", 63)
	for _, begin := range []string{"^(", "^-X", "^not X", "^if", "^9223372036854775808"} {
		checkNoExprAt(t, open+"("+strings.Repeat("1, ", 16)+begin, api.ErrForm)
		checkNoExprAt(t, open+"c("+strings.Repeat("1, ", 8)+begin, api.ErrForm)
	}
	checkNoExprAt(t, open+"("+strings.Repeat("1, ", 15)+"^(", api.ErrDeep)
	checkNoExprAt(t, open+"c("+strings.Repeat("1, ", 7)+"^-X", api.ErrDeep)
	deep := strings.Repeat(".f", 64)
	checkNoExprAt(t, "(X"+deep+strings.Repeat(", X", 15)+", ^X)", api.ErrForm)
	checkRefusedAt(t, "module m p() :- ^X"+deep+strings.Repeat(", X", 12)+".", api.ErrDeep)
	checkRefusedAt(t, "module m p() :- X"+strings.Repeat(", X", 11)+", ^X"+deep+".", api.ErrFull)
	checkRefusedAt(t, "module m p(X"+strings.Repeat(", X", 7)+", ^X"+deep+").", api.ErrForm)
}

// TestP7_1ListsOfTheirOwn has lists that have as many as allowed, beside and within one another.
func TestP7_1ListsOfTheirOwn(t *testing.T) {
	twelve := strings.Repeat("q(), ", 11) + "q()"
	moduleOf(t, "module m p() :- "+twelve+". p() :- "+twelve+". never n :- "+twelve+". never n :- "+twelve+".")
	cons := strings.Repeat("c(int, int, int, int, int, int, int, int) | ", 15) + "c"
	moduleOf(t, "module m type t('a, 'a, 'a, 'a, 'a, 'a, 'a, 'a) = "+cons+" type t = "+cons)
	tuple := func(s string) string { return "(" + strings.Repeat(s+", ", 15) + s + ")" }
	made := func(s string) string { return "c(" + strings.Repeat(s+", ", 7) + s + ")" }
	exprOf(t, tuple(tuple(tuple("1"))))
	exprOf(t, made(tuple(made(made("X")))))
	moduleOf(t, "module m p() :- q("+tuple(made("X"))+", "+made(tuple("_"))+").")
	moduleOf(t, "module m rel p(x: "+tuple(made("int"))+", y: "+made(tuple("int"))+")")
}

// declarations are those of which a module may have so many.
func declarations() []limited {
	return []limited{
		{"module m ", "import a", " ", "", api.MaxModules, api.ErrFull},
		{"module m ", "type t = c", " ", "", api.MaxTypes, api.ErrFull},
		{"module m ", "pub type t = c", " ", "", api.MaxTypes, api.ErrFull},
		{"module m ", "rel p()", " ", "", api.MaxRels, api.ErrFull},
		{"module m ", "input p()", " ", "", api.MaxRels, api.ErrFull},
		{"module m ", "pub input p()", " ", "", api.MaxRels, api.ErrFull},
		{"module m ", "p().", " ", "", api.MaxRules, api.ErrFull},
		{"module m ", "a.p() :- p().", " ", "", api.MaxRules, api.ErrFull},
		{"module m ", "never n :- p().", " ", "", api.MaxRules, api.ErrFull},
	}
}

// TestErrorsOneDeclarationTooMany has what shows that it is one too many as soon as it begins, whether it goes on right or wrong.
func TestErrorsOneDeclarationTooMany(t *testing.T) {
	for _, x := range declarations() {
		all := x.times(x.most)
		if len(all) > 60000 {
			t.Fatal("too long")
		}
		moduleOf(t, all)
		moduleOf(t, all+" # "+x.one)
		tokens := strings.Fields(strings.NewReplacer("(", " ( ", ")", " ) ").Replace(x.one))
		shown := 1
		if tokens[0] == "pub" {
			shown = 2
		}
		for n := shown; n <= len(tokens); n++ {
			for _, behind := range []string{"", " ^", " )", " 9223372036854775808", " module", " " + x.one} {
				behind = strings.ReplaceAll(behind, "^", "X")
				checkRefusedAt(t, all+" ^"+strings.Join(tokens[:n], " ")+behind, x.excess)
			}
		}
		checkRefusedAt(t, all+" ^module", api.ErrForm)
		checkRefusedAt(t, all+" ^X", api.ErrForm)
		checkRefusedAt(t, all+" ^len(X).", api.ErrForm)
		checkRefusedAt(t, all+" pub ^never", api.ErrForm)
		checkRefusedAt(t, all+" pub ^p().", api.ErrForm)
		checkRefusedAt(t, all+" ^pub", api.ErrForm)
		checkRefusedAt(t, all+"\n^"+x.one+"\n"+x.one, x.excess)
	}
	checkRefusedAt(t, "module m "+strings.Repeat("import a ", 8)+"p(). ^import a", api.ErrForm)
	for _, s := range []string{"rel p()", "pub rel p()", "input p()", "pub input p()"} {
		checkRefusedAt(t, "module m "+strings.Repeat("rel p() pub input q() ", 32)+"^"+s, api.ErrFull)
	}
	for _, s := range []string{"type t = c", "pub type t = c"} {
		checkRefusedAt(t, "module m "+strings.Repeat("type t = c pub type u = c ", 32)+"^"+s, api.ErrFull)
	}
}

// TestP7_1AllDeclarations has as many as allowed of each kind in one module, among one another, and then one more of each.
func TestP7_1AllDeclarations(t *testing.T) {
	s := "module m " + strings.Repeat("import a ", 8)
	for i := range 256 {
		if i%4 == 0 {
			s += "type t = c pub rel p() "
		}
		s += "p(). never n :- p(). "
	}
	m := moduleOf(t, s)
	if len(m.Imports) != 8 || len(m.Types) != 64 || len(m.Rels) != 64 || len(m.Rules) != 256 || len(m.Nevers) != 256 {
		t.Error(len(m.Imports), len(m.Types), len(m.Rels), len(m.Rules), len(m.Nevers))
	}
	for _, one := range []string{"type t = c", "pub type t = c", "rel p()", "input p()", "pub rel p()", "p().", "a.b(", "never n"} {
		checkRefusedAt(t, s+"^"+one, api.ErrFull)
	}
}
