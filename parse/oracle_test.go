package parse_test

import (
	"regexp"
	"slices"
	"strconv"
	"strings"

	"corollary/api"
	"corollary/lex"
)

// chapter is the chapter's grammar, with a line for each precedence, and what it says of literals, parts and patterns as conditions (after & ) on the two tokens that come next.
const chapter = `
module  : 'module' N {'import' N} {type | rel | rule | never}
type    : ['pub'] 'type' N ['(' param {',' param} ')'] '=' cons {'|' cons}
param   : ''' N
cons    : N ['(' part {',' part} ')']
part    : &named N ':' T | &unnamed T
rel     : ['pub'] ('rel' | 'input') N '(' [N ':' T {',' N ':' T}] ')'
T       : ''' N | L ['(' T {',' T} ')'] | bool | int | big | text | '(' ')' | '(' T ',' T {',' T} ')'
rule    : L '(' [arg {',' arg}] ')' [':-' literal {',' literal}] '.'
arg     : ('count' | 'sum' | 'min' | 'max') '(' E ')' | E
never   : 'never' N ':-' literal {',' literal} '.'
literal : &atom L '(' [P {',' P}] ')' | &negated 'not' L '(' [P {',' P}] ')' | &binding V '=' E | &condition E
P       : &number '-' Int | &number '-' Big | Int | Big | Text | 'true' | 'false' | V | '_' | '(' ')' | '(' P ',' P {',' P} ')' | L ['(' P {',' P} ')']
E       : 'if' E 'then' E 'else' E | or
or      : and {'or' and}
and     : not {'and' not}
not     : 'not' not | concat [('==' | '!=' | '<' | '<=' | '>' | '>=') concat]
concat  : sum {'++' sum}
sum     : product {('+' | '-') product}
product : one {('*' | '/' | '%') one}
one     : '-' one | post
post    : least {Field}
least   : value | V | '(' ')' | '(' E ')' | '(' E ',' E {',' E} ')' | F '(' E ')' | L ['(' E {',' E} ')']
value   : ['-'] Int | ['-'] Big | Text | 'true' | 'false'
`

// part is what may be at a token: it returns at which tokens it may end.
type part func(r *recognizer, at int) []int

// recognizer tries all ways to read tokens by a grammar.
type recognizer struct {
	rules   map[string]part
	tokens  []lex.Token
	known   map[place][]int
	reached int // the last token that some way led to
}

type place struct {
	rule string
	at   int
}

// newGrammar reads the chapter's grammar.
func newGrammar() map[string]part {
	rules := map[string]part{}
	for _, line := range strings.Split(strings.TrimSpace(chapter), "\n") {
		name, _, _ := strings.Cut(line, " ")
		rules[name] = nil
	}
	for _, line := range strings.Split(strings.TrimSpace(chapter), "\n") {
		name, right, _ := strings.Cut(line, " : ")
		g := grammarReader{rules, regexp.MustCompile(`'''|'[^']+'|&?\w+|[][{}()|]`).FindAllString(right, -1)}
		rules[strings.TrimSpace(name)] = g.choice()
	}
	return rules
}

// grammarReader reads one line of a grammar.
type grammarReader struct {
	rules map[string]part
	rest  []string
}

func (g *grammarReader) next() string {
	s := g.rest[0]
	g.rest = g.rest[1:]
	return s
}

func (g *grammarReader) choice() part {
	choices := []part{g.sequence()}
	for len(g.rest) > 0 && g.rest[0] == "|" {
		g.next()
		choices = append(choices, g.sequence())
	}
	return func(r *recognizer, at int) []int {
		var ends []int
		for _, x := range choices {
			ends = append(ends, x(r, at)...)
		}
		return ends
	}
}

func (g *grammarReader) sequence() part {
	var l []part
	for len(g.rest) > 0 && !strings.Contains("|)]}", g.rest[0]) {
		l = append(l, g.item())
	}
	return func(r *recognizer, at int) []int {
		ends := []int{at}
		for _, x := range l {
			var further []int
			for _, at := range ends {
				further = append(further, x(r, at)...)
			}
			slices.Sort(further)
			ends = slices.Compact(further)
		}
		return ends
	}
}

func (g *grammarReader) item() part {
	s := g.next()
	switch s {
	case "(", "[", "{":
		inner := g.choice()
		g.next()
		switch s {
		case "[":
			return func(r *recognizer, at int) []int { return append(inner(r, at), at) }
		case "{":
			return repeated(inner)
		}
		return inner
	}
	if condition, is := strings.CutPrefix(s, "&"); is {
		return func(r *recognizer, at int) []int {
			if r.holds(condition, at) {
				return []int{at}
			}
			return nil
		}
	}
	if _, is := g.rules[s]; is {
		return func(r *recognizer, at int) []int { return r.ends(s, at) }
	}
	return func(r *recognizer, at int) []int {
		r.reached = max(r.reached, at)
		if at < len(r.tokens) && isTerminal(s, r.tokens[at]) {
			return []int{at + 1}
		}
		return nil
	}
}

func repeated(inner part) part {
	return func(r *recognizer, at int) []int {
		ends := []int{at}
		for i := 0; i < len(ends); i++ {
			for _, end := range inner(r, ends[i]) {
				if !slices.Contains(ends, end) {
					ends = append(ends, end)
				}
			}
		}
		return ends
	}
}

func (r *recognizer) ends(rule string, at int) []int {
	ends, is := r.known[place{rule, at}]
	if !is {
		ends = r.rules[rule](r, at)
		slices.Sort(ends)
		ends = slices.Compact(ends)
		r.known[place{rule, at}] = ends
	}
	return slices.Clone(ends)
}

// at is a token, or an empty one behind them.
func (r *recognizer) at(i int) lex.Token {
	if i < len(r.tokens) {
		return r.tokens[i]
	}
	return lex.Token{}
}

func (r *recognizer) holds(condition string, i int) bool {
	first, second := r.at(i), r.at(i+1)
	switch condition {
	case "named":
		return first.Kind == lex.Name && isTerminal("':'", second)
	case "unnamed":
		return !r.holds("named", i)
	case "atom":
		return isTerminal("L", first)
	case "negated":
		return isTerminal("'not'", first) && isTerminal("L", second)
	case "number":
		return isTerminal("Int", second) || isTerminal("Big", second)
	case "binding":
		return isTerminal("V", first) && isTerminal("'='", second)
	}
	return !r.holds("atom", i) && !r.holds("negated", i) && !r.holds("binding", i)
}

// isTerminal tells whether a token is what the grammar's text says.
func isTerminal(s string, t lex.Token) bool {
	switch s {
	case "N":
		return t.Kind == lex.Name && isPlain(t.Text)
	case "L":
		return t.Kind == lex.Name && isLong(t.Text)
	case "F":
		return t.Kind == lex.Name && slices.Contains(functions(), t.Text)
	case "V":
		return t.Kind == lex.Variable
	case "Int":
		return t.Kind == lex.Int
	case "Big":
		return t.Kind == lex.Big
	case "Text":
		return t.Kind == lex.Text
	case "Field":
		return t.Kind == lex.Field && isPlain(t.Text)
	case "'_'":
		return t.Kind == lex.Any
	case "bool", "int", "big", "text":
		return t.Kind == lex.Name && t.Text == s
	}
	return (t.Kind == lex.Word || t.Kind == lex.Sign) && t.Text == s[1:len(s)-1]
}

// recognize tells which token of a list is the first one that is not allowed, by a line of the grammar: their number, if another one is missing, and -1, if none is.
func recognize(rules map[string]part, rule string, tokens []lex.Token) int {
	r := &recognizer{rules: rules, tokens: tokens, known: map[place][]int{}}
	ends := r.ends(rule, 0)
	if slices.Contains(ends, len(tokens)) {
		return -1
	}
	for _, end := range ends {
		r.reached = max(r.reached, end)
	}
	return r.reached
}

// outside tells which of some tokens is the first one of an integer that is outside its range: their number, if none is.
func outside(tokens []lex.Token) int {
	for i, t := range tokens {
		if t.Kind != lex.Int {
			continue
		}
		begin, digits := i, t.Text
		if i > 0 && isTerminal("'-'", tokens[i-1]) && (i == 1 || !endsOperand(tokens[i-2])) {
			begin, digits = i-1, "-"+digits
		}
		if _, e := strconv.ParseInt(digits, 10, 64); e != nil {
			return begin
		}
	}
	return len(tokens)
}

func endsOperand(t lex.Token) bool {
	return t.Kind != lex.Word && t.Kind != lex.Sign || slices.Contains([]string{")", "true", "false"}, t.Text)
}

// refusal is the error of a text, and its position, as long as there is not too much of anything in it.
func refusal(rules map[string]part, rule, s string) (api.Pos, api.Errno) {
	tokens, p, e := lex.Tokens(s)
	if e != api.OK {
		return p, e
	}
	n := recognize(rules, rule, tokens)
	if n < 0 {
		n, e = len(tokens), api.OK
	} else {
		e = api.ErrForm
	}
	if i := outside(tokens[:n]); i < n {
		return tokens[i].Pos, api.ErrOver
	}
	switch {
	case e == api.OK:
		return api.Pos{}, api.OK
	case len(tokens) == 0:
		return api.Pos{Line: 1, Col: 1}, e
	}
	return tokens[min(n, len(tokens)-1)].Pos, e
}

var (
	plainPattern = regexp.MustCompile(`\A[a-z][A-Za-z0-9_]{0,31}\z`)
	longPattern  = regexp.MustCompile(`\A[^.]+(\.[^.]+)?\z`)
)

func isPlain(s string) bool { return plainPattern.MatchString(s) && !slices.Contains(reserved(), s) }

func isLong(s string) bool {
	return longPattern.MatchString(s) && !slices.ContainsFunc(strings.Split(s, "."), func(s string) bool { return !isPlain(s) })
}
