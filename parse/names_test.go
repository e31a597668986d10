package parse_test

import (
	"slices"
	"strings"
	"testing"

	"corollary/api"
	"corollary/lex"
)

// plainPlaces are texts with @ for a plain name.
func plainPlaces() []string {
	return []string{
		"module @", "module m import @", "module m import a import @ import b", "module m type @ = c", "module m pub type @('a) = c", "module m type t(' @) = c", "module m type t('a, ' @, 'b) = c", "module m type t = @", "module m type t = @(int)", "module m type t = c | @ | d",
		"module m type t = c(@: int)", "module m type t = c(int, @: int)", "module m type t = c(' @)", "module m type t = c(t('a, ' @))", "module m type t = c((' @, int))", "module m rel @()", "module m input @(x: int)", "module m pub rel @(x: int)", "module m pub input @()", "module m rel p(@: int)", "module m input p(x: int, @: t)", "module m rel p(x: ' @)",
		"module m never @ :- p().",
	}
}

// longPlaces are texts with @ for a long name.
func longPlaces() []string {
	return []string{
		"module m type t = c(@)", "module m type t = c(x: @)", "module m type t = c(@(int))", "module m type t = c(t(int, @))", "module m type t = c((int, @))", "module m rel p(x: @)", "module m rel p(x: @(int))", "module m rel p(x: (@, @(@)))",
		"module m @().", "module m @(X).", "module m @() :- q().", "module m p(). @(). q().", "module m p() :- @().", "module m p() :- @(X).", "module m p() :- X, @(_), X.", "module m p() :- not @().", "module m p() :- not @(X), X.", "module m never n :- @().", "module m never n :- not @(1).", "module m never n :- X, not @().",
		"module m p() :- q(@).", "module m p() :- q(@(1)).", "module m p() :- q(1, (@, _)).", "module m p() :- not q(c(@)).", "module m never n :- q(c(1, @(_))).",
		"module m p(@).", "module m p(@ == 1).", "module m p(X == @).", "module m p(1, @(X)).", "module m p(max(@)).", "module m p() :- X = @.", "module m p() :- X = @(1).", "module m p() :- (@(1)).", "module m p() :- not (@).", "module m p() :- X == @.", "module m p(-@).", "module m p((@, @)).", "module m p(c(@)).", "module m p(len(@)).", "module m p(if @ then @ else @).", "module m p(not @).", "module m p((@).f).", "module m p() :- not not @.",
	}
}

// withName is a text with a name put where @ is, and the position of the first one.
func withName(place, name string) (string, api.Pos) {
	return strings.ReplaceAll(place, "@", name), posAt(place, strings.Index(place, "@"))
}

func TestP7_1Names(t *testing.T) {
	plain := []string{"a", "z", "aB_0", "a__", "modules", "nots", "maxi", "lens", "ints", "booleans", "tuples", "x", strings.Repeat("n", 32)}
	long := []string{"a.b", "b.a", "a.a", "modules.nots", strings.Repeat("n", 32) + "." + strings.Repeat("o", 32)}
	other := []string{"X", "Xa", "_", "1", "1b", "\"a\"", ".", ".a", ",", "=", "' '", "a.b.c"}
	for _, place := range append(plainPlaces(), longPlaces()...) {
		isPlain := slices.Contains(plainPlaces(), place)
		for _, s := range append(plain, long...) {
			text, pos := withName(place, s)
			if isPlain && strings.Contains(s, ".") {
				checkRefused(t, text, pos, api.ErrForm)
				continue
			}
			moduleOf(t, text)
		}
		for _, s := range other {
			if beginsType := s == "' '" || s == "a.b.c"; !isPlain || beginsType && strings.Contains(place, "c(") {
				continue
			}
			text, pos := withName(place, s)
			checkRefused(t, text, pos, api.ErrForm)
		}
	}
}

// TestP7_1ReservedNames has each where a name is asked, alone and as a part of a long one.
func TestP7_1ReservedNames(t *testing.T) {
	rules := newGrammar()
	for _, place := range append(plainPlaces(), longPlaces()...) {
		isPlain := slices.Contains(plainPlaces(), place)
		for _, s := range reserved() {
			text, pos := withName(place, s)
			if isPlain {
				checkRefused(t, text, pos, api.ErrForm)
				continue
			}
			wanted, error := refusal(rules, "module", text) // some are values, types, functions, or begin something else there
			if error == api.OK {
				moduleOf(t, text)
			} else {
				checkRefused(t, text, wanted, error)
			}
		}
		for _, s := range reserved()[len(words()):] {
			for _, name := range []string{s + ".a", "a." + s, s + "." + s} {
				text, pos := withName(place, name)
				checkRefused(t, text, pos, api.ErrForm)
			}
		}
	}
}

// TestP7_1WordsAreNoNames has the words where a name is asked that only a rule, a type, a relation or an atom has there.
func TestP7_1WordsAreNoNames(t *testing.T) {
	for _, s := range words() {
		for _, place := range []string{"module m type t = c(^@)", "module m rel p(x: ^@)", "module m rel p(x: t(^@))", "module m p() :- not a.b(^@(1)).", "module m p() :- q(c(^@ )) ."} {
			if (s == "true" || s == "false") && strings.Contains(place, ":-") {
				continue
			}
			checkRefusedAt(t, strings.ReplaceAll(place, "@", s), api.ErrForm)
		}
		checkRefusedAt(t, "module m a^."+s+"().", api.ErrForm)
		checkRefusedAt(t, "module m p() :- a^."+s+"().", api.ErrForm)
		checkRefusedAt(t, "module m rel p(x: a^."+s+")", api.ErrForm)
		checkNoExprAt(t, "a^."+s, api.ErrForm)
		checkNoExprAt(t, "X^."+s, api.ErrForm)
	}
}

// TestP7_1TextsThatLookLikeOthers has texts in quotes that are no words, signs, names or variables.
func TestP7_1TextsThatLookLikeOthers(t *testing.T) {
	for _, s := range append(append(words(), signs()...), "a", "a.b", "X", "_", "1", "len", "neg", "int", "bool", "nil") {
		q := lex.Quote(s)
		checkExpr(t, q, q)
		checkExpr(t, "("+q+", "+q+")", "("+q+", "+q+")")
		checkExpr(t, q+" == "+q, "("+q+" == "+q+")")
		checkModule(t, "module m p() :- q("+q+"), "+q+".", "p() :- q("+q+"), "+q+".")
		checkNoExprAt(t, "X ^"+q, api.ErrForm)
		checkNoExprAt(t, "X ^"+q+" Y", api.ErrForm)
		checkNoExprAt(t, "c ^"+q, api.ErrForm)
		checkNoExprAt(t, "len ^"+q, api.ErrForm)
		checkNoExprAt(t, "if X ^"+q, api.ErrForm)
		for _, place := range []string{"^@", "module ^@", "module m ^@", "module m import ^@", "module m pub ^@", "module m type ^@", "module m type t ^@", "module m type t = ^@", "module m type t = c ^@", "module m type t = c(^@", "module m type t(^@", "module m rel ^@", "module m rel p ^@", "module m rel p(^@", "module m rel p(x ^@", "module m rel p(x: ^@", "module m rel p(x: t ^@", "module m p ^@", "module m p() ^@", "module m p() :- q ^@", "module m p() :- q() ^@", "module m p() :- not q ^@", "module m p() :- q(X ^@", "module m p() :- X ^@", "module m p(X ^@", "module m p(max ^@", "module m p(max(X ^@", "module m never ^@", "module m never n ^@", "module m p() :- q(c ^@", "module m p() :- q(^- @"} {
			checkRefusedAt(t, strings.ReplaceAll(place, "@", q), api.ErrForm)
			checkRefusedAt(t, strings.ReplaceAll(place, "@", q)+" p(", api.ErrForm)
		}
	}
}
