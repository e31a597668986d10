package parse_test

import (
	"slices"
	"strconv"
	"strings"

	"corollary/api"
	"corollary/lex"
)

// writer writes trees as tokens, as the chapter's grammar has them, with other brackets each time, and keeps which position is at which token.
type writer struct {
	generator
	brackets int // where none are needed, there are some once in so many times; 0: never
	tokens   []string
	marks    []mark
}

type mark struct {
	pos   *api.Pos
	token int
}

func (w *writer) put(tokens ...string) { w.tokens = append(w.tokens, tokens...) }

// mark says that a position is that of the token that comes next.
func (w *writer) mark(pos *api.Pos) { w.marks = append(w.marks, mark{pos, len(w.tokens)}) }

// text is all tokens, with blanks and comments between them; each position is set.
func (w *writer) text() string {
	var b strings.Builder
	begins := make([]int, len(w.tokens))
	for i, s := range w.tokens {
		if i == 0 || needBlank(w.tokens[i-1], s) || w.chance(3) {
			b.WriteString(w.between())
		}
		begins[i] = b.Len()
		b.WriteString(s)
	}
	if w.chance(2) {
		b.WriteString(w.between())
	}
	s := b.String()
	for _, m := range w.marks {
		*m.pos = posAt(s, begins[m.token])
	}
	return s
}

// needBlank tells whether two tokens would, or might, be others without one between them.
func needBlank(first, second string) bool {
	if strings.Contains("(),", first) || strings.Contains("(),", second) {
		return false
	}
	isField := len(second) > 1 && second[0] == '.'
	return !isField || 'a' <= first[0] && first[0] <= 'z'
}

func (w *writer) between() string {
	return pick(w.generator, " ", " ", " ", "  ", "\t", "\n", "\r\n", " # a.b(X)\n", "\n\n#\n\t ")
}

// list writes a list, each as it is passed how, with a token between each two.
func list[T any](w *writer, between string, l []T, write func(*T)) {
	for i := range l {
		if i > 0 {
			w.put(between)
		}
		write(&l[i])
	}
}

func inBrackets[T any](w *writer, l []T, write func(*T)) {
	w.put("(")
	list(w, ",", l, write)
	w.put(")")
}

func inBracketsIfAny[T any](w *writer, l []T, write func(*T)) {
	if len(l) > 0 {
		inBrackets(w, l, write)
	}
}

func (w *writer) typ(t *api.Type) {
	if s, is := strings.CutPrefix(t.Name, "'"); is {
		w.put("'", s)
		return
	}
	if t.Name == "tuple" {
		inBrackets(w, t.Args, w.typ)
		return
	}
	w.put(t.Name)
	inBracketsIfAny(w, t.Args, w.typ)
}

func (w *writer) pattern(e *api.Expr) {
	w.mark(&e.Pos)
	switch e.Kind {
	case api.Lit:
		w.value(e.Value)
	case api.Var:
		w.put(e.Name)
	case api.Any:
		w.put("_")
	case api.Tup:
		inBrackets(w, e.Args, w.pattern)
	case api.Make:
		w.put(e.Name)
		inBracketsIfAny(w, e.Args, w.pattern)
	}
}

func (w *writer) value(v api.Value) {
	switch v.Kind {
	case api.Bool:
		w.put([]string{"false", "true"}[v.N])
	case api.Int:
		w.number(strconv.FormatInt(v.N, 10), "")
	case api.Big:
		w.number(v.S, "b")
	case api.Text:
		w.put(lex.Quote(v.S))
	}
}

func (w *writer) number(s, end string) {
	digits, negative := strings.CutPrefix(s, "-")
	if negative || s == "0" && w.chance(2) {
		w.put("-")
	}
	w.put(digits + end)
}

// The levels of the grammar, the loosest first.
const (
	levelE = iota
	levelOr
	levelAnd
	levelNot // and the comparisons
	levelConcat
	levelSum
	levelProduct
	levelOne
	levelPost
	levelLeast
)

// levels are, of an expression, that of the line of the grammar that makes it, and those of its operands.
func (w *writer) levels(e *api.Expr) (int, []int) {
	switch e.Kind {
	case api.If:
		return levelE, []int{levelE, levelE, levelE}
	case api.Field:
		return levelPost, []int{levelPost}
	case api.Call:
		switch e.Name {
		case "or":
			return levelOr, []int{levelOr, levelAnd}
		case "and":
			return levelAnd, []int{levelAnd, levelNot}
		case "not":
			return levelNot, []int{levelNot}
		case "==", "!=", "<", "<=", ">", ">=":
			return levelNot, []int{levelConcat, levelConcat}
		case "++":
			return levelConcat, []int{levelConcat, levelSum}
		case "+", "-":
			return levelSum, []int{levelSum, levelProduct}
		case "*", "/", "%":
			return levelProduct, []int{levelProduct, levelOne}
		case "neg":
			if w.chance(2) {
				return levelOne, []int{levelOne}
			}
		}
	}
	return levelLeast, nil
}

// expr writes an expression where one of a level may stand.
func (w *writer) expr(e *api.Expr, level int) {
	own, operands := w.levels(e)
	if own < level || w.brackets > 0 && w.chance(w.brackets) {
		w.put("(")
		w.expr(e, levelE)
		w.put(")")
		return
	}
	switch {
	case own == levelLeast:
		w.least(e)
	case e.Kind == api.If:
		w.mark(&e.Pos)
		for i, word := range []string{"if", "then", "else"} {
			w.put(word)
			w.expr(&e.Args[i], operands[i])
		}
	case e.Kind == api.Field:
		w.expr(&e.Args[0], operands[0])
		w.mark(&e.Pos)
		w.put("." + e.Name)
	case e.Name == "neg":
		w.mark(&e.Pos)
		w.put("-")
		w.negated(e, operands[0])
	case e.Name == "not":
		w.mark(&e.Pos)
		w.put("not")
		w.expr(&e.Args[0], operands[0])
	default:
		w.expr(&e.Args[0], operands[0])
		w.mark(&e.Pos)
		w.put(e.Name)
		w.expr(&e.Args[1], operands[1])
	}
}

// negated writes what is behind a -, in brackets if a number would be next to it.
func (w *writer) negated(e *api.Expr, level int) {
	begin := len(w.tokens)
	w.expr(&e.Args[0], level)
	if c := w.tokens[begin][0]; '0' <= c && c <= '9' {
		w.enclose(begin)
	}
}

// enclose puts all tokens from one on in brackets.
func (w *writer) enclose(begin int) {
	w.tokens = append(slices.Insert(w.tokens, begin, "("), ")")
	for i := range w.marks {
		if w.marks[i].token >= begin {
			w.marks[i].token++
		}
	}
}

func (w *writer) least(e *api.Expr) {
	part := func(e *api.Expr) { w.expr(e, levelE) }
	w.mark(&e.Pos)
	switch e.Kind {
	case api.Lit:
		w.value(e.Value)
	case api.Var:
		w.put(e.Name)
	case api.Tup:
		inBrackets(w, e.Args, part)
	case api.Make, api.Call:
		w.put(e.Name)
		inBracketsIfAny(w, e.Args, part)
	}
}

func (w *writer) whole(e *api.Expr) { w.expr(e, levelE) }

func (w *writer) literal(l *api.Literal) {
	begin := len(w.tokens)
	switch l.Kind {
	case api.Not:
		w.put("not")
		fallthrough
	case api.Atom:
		w.put(l.Rel)
		inBrackets(w, l.Args, w.pattern)
	case api.Bind:
		w.put(l.Rel, "=")
		w.whole(&l.Args[0])
	case api.Cond:
		w.whole(&l.Args[0])
		if isLong(w.tokens[begin]) || w.tokens[begin] == "not" && isLong(w.tokens[begin+1]) {
			w.enclose(begin)
		}
	}
	w.marks = append(w.marks, mark{&l.Pos, begin})
}

func (w *writer) importOf(i *api.Import) {
	w.mark(&i.Pos)
	w.put("import", i.Name)
}

func (w *writer) pub(is bool) {
	if is {
		w.put("pub")
	}
}

func (w *writer) typeDef(d *api.TypeDef) {
	w.mark(&d.Pos)
	w.pub(d.Pub)
	w.put("type", d.Name)
	inBracketsIfAny(w, d.Params, func(s *string) { w.put("'", (*s)[1:]) })
	w.put("=")
	list(w, "|", d.Cons, func(c *api.ConsDef) {
		w.put(c.Name)
		inBracketsIfAny(w, c.Fields, w.field)
	})
}

func (w *writer) field(f *api.FieldDef) {
	if f.Name != "" {
		w.put(f.Name, ":")
	}
	w.typ(&f.Type)
}

func (w *writer) relDef(d *api.RelDef) {
	w.mark(&d.Pos)
	w.pub(d.Pub)
	w.put(map[bool]string{true: "input", false: "rel"}[d.Input], d.Name)
	inBrackets(w, d.Fields, w.field)
}

func (w *writer) rule(r *api.Rule) {
	w.mark(&r.Pos)
	w.put(r.Rel)
	i := 0
	inBrackets(w, r.Args, func(e *api.Expr) {
		if r.Aggs[i] == "" {
			w.whole(e)
		} else {
			w.put(r.Aggs[i], "(")
			w.whole(e)
			w.put(")")
		}
		i++
	})
	w.body(r.Body)
}

func (w *writer) never(n *api.Never) {
	w.mark(&n.Pos)
	w.put("never", n.Name)
	w.body(n.Body)
}

func (w *writer) body(l []api.Literal) {
	if len(l) > 0 {
		w.put(":-")
		list(w, ",", l, w.literal)
	}
	w.put(".")
}

// module writes a module, its types, relations, rules and nevers among one another in some order.
func (w *writer) module(m *api.Module) {
	w.put("module", m.Name)
	for i := range m.Imports {
		w.importOf(&m.Imports[i])
	}
	var kinds []int
	for kind, n := range []int{len(m.Types), len(m.Rels), len(m.Rules), len(m.Nevers)} {
		kinds = append(kinds, slices.Repeat([]int{kind}, n)...)
	}
	w.Shuffle(len(kinds), func(i, k int) { kinds[i], kinds[k] = kinds[k], kinds[i] })
	var written [4]int
	for _, kind := range kinds {
		i := written[kind]
		written[kind]++
		switch kind {
		case 0:
			w.typeDef(&m.Types[i])
		case 1:
			w.relDef(&m.Rels[i])
		case 2:
			w.rule(&m.Rules[i])
		case 3:
			w.never(&m.Nevers[i])
		}
	}
}

// textOfModule is a text of a module, whose positions are set.
func textOfModule(g generator, m *api.Module) string {
	w := &writer{generator: g, brackets: 8}
	w.module(m)
	return w.text()
}

// textOfExpr is a text of an expression, whose positions are set.
func textOfExpr(g generator, e *api.Expr, brackets int) string {
	w := &writer{generator: g, brackets: brackets}
	w.whole(e)
	return w.text()
}
