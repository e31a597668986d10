package lex_test

import (
	"slices"
	"strings"
	"testing"
	"unsafe"

	"corollary/lex"
)

const sample = "module m\npub type t('a) = c(\"x\", 12b) | n.o # end\np(X, _) :- X.f >= 0, not q.r(\"\\n\xff\")."

// TestR3NewMemory changes what was returned, and what is behind its end: nothing that is returned later shows that.
func TestR3NewMemory(t *testing.T) {
	first, second := tokensOf(t, sample), tokensOf(t, sample)
	want := slices.Clone(first)
	for i := range first[:cap(first)] {
		first[:cap(first)][i] = text("spoilt")
	}
	if !slices.Equal(second, want) || !slices.Equal(tokensOf(t, sample), want) {
		t.Error("the lists share memory")
	}
	for i, x := range second[len(second):cap(second)] {
		if x != (lex.Token{}) {
			t.Errorf("behind the end, %d: %v", i, x)
		}
	}
}

// TestR3TheTextIsNotKept has a text whose memory is changed after the call.
func TestR3TheTextIsNotKept(t *testing.T) {
	for _, s := range []string{sample, "not", "a", "a.b", ".a", "X", "_", "12", "12b", `"a"`, "(", ":-"} {
		want := slices.Clone(tokensOf(t, strings.Clone(s)))
		memory := []byte(s)
		l := tokensOf(t, unsafe.String(&memory[0], len(memory)))
		quoted := lex.Quote(unsafe.String(&memory[0], len(memory)))
		clear(memory)
		if !slices.Equal(l, want) || quoted != lex.Quote(s) {
			t.Errorf("%q: %q, %q", s, lex.Show(l), quoted)
		}
	}
}

// TestR3ShowReadsNoFurtherThanTheLength has tokens behind the end of the list, and finds all as they were.
func TestR3ShowReadsNoFurtherThanTheLength(t *testing.T) {
	l := []lex.Token{name("a"), text("b\n"), long("1"), field("c"), variable("X")}
	want := slices.Clone(l)
	for n := range len(l) {
		if s := lex.Show(l[:n]); s != strings.Join(shownEach(want[:n]), " ") {
			t.Errorf("the first %d: %q", n, s)
		}
	}
	if !slices.Equal(l, want) {
		t.Errorf("changed: %v", l)
	}
}

// TestR2TheSameAgain calls with other texts in between.
func TestR2TheSameAgain(t *testing.T) {
	want := tokensOf(t, sample)
	for _, s := range []string{"", "$", "not a", `"`, strings.Repeat("n", 40), sample + sample} {
		lex.Tokens(s)
		lex.Show(want)
		if !slices.Equal(tokensOf(t, sample), want) {
			t.Errorf("after %q: other tokens", s)
		}
	}
}
