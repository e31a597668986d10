package tree_test

import (
	"slices"
	"strings"
	"testing"

	"corollary/api"
)

// place is where a name stands in a module: which texts may stand there, and the line with one.
type place struct {
	what string
	may  func(s string) bool
	make func(s string) api.Module
	line func(s string) string
}

func isEmptyOrPlain(s string) bool { return s == "" || isPlain(s) }

func isParameter(s string) bool { return strings.HasPrefix(s, "'") && isPlain(s[1:]) }

// isTypeWithoutArgs tells whether a type without Args may have this name.
func isTypeWithoutArgs(s string) bool {
	return isLong(s) || isParameter(s) || slices.Contains([]string{"bool", "int", "big", "text", "tuple"}, s)
}

func isTypeWithArgs(s string) bool { return isLong(s) || s == "tuple" }

// typeLine is a line with a type: the empty tuple is written without its name.
func typeLine(before, s, behind string) string {
	if s == "tuple" {
		s = "()"
	}
	return before + s + behind
}

func ofRule(r api.Rule) api.Module { return api.Module{Rules: []api.Rule{r}} }

func ofRel(d api.RelDef) api.Module { return api.Module{Rels: []api.RelDef{d}} }

func ofType(d api.TypeDef) api.Module { return api.Module{Types: []api.TypeDef{d}} }

// placesOfNames are all places but those of Calls and aggregates, and that of a module's own name.
func placesOfNames() []place {
	x, whole := variable("X"), typ("int")
	c := []api.ConsDef{consDef("c")}
	return []place{
		{"an import", isPlain, func(s string) api.Module { return api.Module{Imports: []api.Import{{Name: s}}} }, func(s string) string { return "import " + s }},
		{"a type", isPlain, func(s string) api.Module { return ofType(api.TypeDef{Name: s, Cons: c}) }, func(s string) string { return "type " + s + " = c" }},
		{"a parameter", isParameter, func(s string) api.Module { return ofType(api.TypeDef{Name: "t", Params: []string{s}, Cons: c}) }, func(s string) string { return "type t(" + s + ") = c" }},
		{"a second parameter", isParameter, func(s string) api.Module {
			return ofType(api.TypeDef{Name: "t", Params: []string{"'a", s, "'b"}, Cons: c})
		}, func(s string) string { return "type t('a, " + s + ", 'b) = c" }},
		{"a constructor", isPlain, func(s string) api.Module { return ofType(api.TypeDef{Name: "t", Cons: []api.ConsDef{consDef(s)}}) }, func(s string) string { return "type t = " + s }},
		{"a second constructor", isPlain, func(s string) api.Module {
			return ofType(api.TypeDef{Name: "t", Cons: []api.ConsDef{consDef("c"), consDef(s, unnamed(whole))}})
		}, func(s string) string { return "type t = c | " + s + "(int)" }},
		{"a constructor's field", isEmptyOrPlain, func(s string) api.Module {
			return ofType(api.TypeDef{Name: "t", Cons: []api.ConsDef{consDef("c", named("a", whole), named(s, whole))}})
		}, func(s string) string { return "type t = c(a: int, " + strings.TrimPrefix(s+": ", ": ") + "int)" }},
		{"a constructor's type", isTypeWithoutArgs, func(s string) api.Module {
			return ofType(api.TypeDef{Name: "t", Cons: []api.ConsDef{consDef("c", unnamed(typ(s)))}})
		}, func(s string) string { return typeLine("type t = c(", s, ")") }},
		{"a relation", isPlain, func(s string) api.Module { return ofRel(api.RelDef{Name: s}) }, func(s string) string { return "rel " + s + "()" }},
		{"a relation's field", isPlain, func(s string) api.Module {
			return ofRel(api.RelDef{Name: "r", Fields: []api.FieldDef{named("a", whole), named(s, whole)}})
		}, func(s string) string { return "rel r(a: int, " + s + ": int)" }},
		{"a relation's type", isTypeWithoutArgs, func(s string) api.Module {
			return ofRel(api.RelDef{Name: "r", Fields: []api.FieldDef{named("a", typ(s))}})
		}, func(s string) string { return typeLine("rel r(a: ", s, ")") }},
		{"a type with Args", isTypeWithArgs, func(s string) api.Module {
			return ofRel(api.RelDef{Name: "r", Fields: []api.FieldDef{named("a", typ(s, whole, whole))}})
		}, func(s string) string { return strings.Replace("rel r(a: "+s+"(int, int))", " tuple(", " (", 1) }},
		{"a type in another one", isTypeWithoutArgs, func(s string) api.Module {
			return ofRel(api.RelDef{Name: "r", Fields: []api.FieldDef{named("a", typ("tuple", whole, typ("t", typ(s))))}})
		}, func(s string) string { return typeLine("rel r(a: (int, t(", s, ")))") }},
		{"a head", isLong, func(s string) api.Module { return ofRule(rule(s, nil)) }, func(s string) string { return s + "()." }},
		{"a head with arguments", isLong, func(s string) api.Module { return ofRule(rule(s, exprs(x), atom("q"))) }, func(s string) string { return s + "(X) :- q()." }},
		{"a variable in a head", isVariable, func(s string) api.Module { return ofRule(rule("p", exprs(variable(s)))) }, func(s string) string { return "p(" + s + ")." }},
		{"a constructor in a head", isLong, func(s string) api.Module { return ofRule(rule("p", exprs(cons(s)))) }, func(s string) string { return "p(" + s + ")." }},
		{"a constructor with arguments", isLong, func(s string) api.Module { return ofRule(rule("p", exprs(tup(x, cons(s, x))))) }, func(s string) string { return "p((X, " + s + "(X)))." }},
		{"a field", isPlain, func(s string) api.Module { return ofRule(rule("p", exprs(field(s, x)))) }, func(s string) string { return "p(X." + s + ")." }},
		{"a field of a field", isPlain, func(s string) api.Module { return ofRule(rule("p", exprs(field("f", field(s, x))))) }, func(s string) string { return "p(X." + s + ".f)." }},
		{"an atom", isLong, func(s string) api.Module { return ofRule(rule("p", nil, atom(s))) }, func(s string) string { return "p() :- " + s + "()." }},
		{"a not", isLong, func(s string) api.Module { return ofRule(rule("p", nil, atom("q"), not(s, x))) }, func(s string) string { return "p() :- q(), not " + s + "(X)." }},
		{"a variable in an atom", isVariable, func(s string) api.Module { return ofRule(rule("p", nil, atom("q", x, variable(s)))) }, func(s string) string { return "p() :- q(X, " + s + ")." }},
		{"a constructor in an atom", isLong, func(s string) api.Module { return ofRule(rule("p", nil, atom("q", cons(s)))) }, func(s string) string { return "p() :- q(" + s + ")." }},
		{"a constructor in a not", isLong, func(s string) api.Module { return ofRule(rule("p", nil, not("q", tup(x, cons(s, x))))) }, func(s string) string { return "p() :- not q((X, " + s + "(X)))." }},
		{"a constructor as a condition", isLong, func(s string) api.Module { return ofRule(rule("p", nil, cond(cons(s)))) }, func(s string) string { return "p() :- (" + s + ")." }},
		{"a variable as a condition", isVariable, func(s string) api.Module { return ofRule(rule("p", nil, cond(variable(s)))) }, func(s string) string { return "p() :- " + s + "." }},
		{"a variable that is bound", isVariable, func(s string) api.Module { return ofRule(rule("p", nil, bind(s, x))) }, func(s string) string { return "p() :- " + s + " = X." }},
		{"a variable to which another one is bound", isVariable, func(s string) api.Module { return ofRule(rule("p", nil, bind("Y", variable(s)))) }, func(s string) string { return "p() :- Y = " + s + "." }},
		{"a never", isPlain, func(s string) api.Module { return api.Module{Nevers: []api.Never{never(s, atom("q"))}} }, func(s string) string { return "never " + s + " :- q()." }},
		{"an atom in a never", isLong, func(s string) api.Module { return api.Module{Nevers: []api.Never{never("n", not("q"), atom(s))}} }, func(s string) string { return "never n :- not q(), " + s + "()." }},
	}
}

// TestP6_1Names has all that is a name, or nearly, at each place of one.
func TestP6_1Names(t *testing.T) {
	for _, p := range placesOfNames() {
		accepted := 0
		for _, s := range candidates() {
			m := p.make(s)
			m.Name = "m"
			if !p.may(s) {
				checkRefused(t, p.what+": "+s, m, api.ErrForm)
				continue
			}
			checkText(t, m, p.line(s))
			accepted++
		}
		if accepted < 25 {
			t.Errorf("%s: only %d were accepted", p.what, accepted)
		}
	}
}

func TestP6_1NamesOfModules(t *testing.T) {
	for _, s := range candidates() {
		want := api.ErrForm
		if isPlain(s) {
			want = api.OK
		}
		checkModule(t, "the module "+s, api.Module{Name: s}, want)
		checkModule(t, "the module "+s, api.Module{Name: s, Rules: []api.Rule{rule("p", nil)}}, want)
	}
}

// TestP6_1NamesOfPatterns has all names in patterns alone.
func TestP6_1NamesOfPatterns(t *testing.T) {
	for _, s := range candidates() {
		for _, x := range []struct {
			e  api.Expr
			is bool
		}{{variable(s), isVariable(s)}, {cons(s), isLong(s)}, {cons(s, anything()), isLong(s)}} {
			want := api.ErrForm
			if x.is {
				want = api.OK
			}
			checkPattern(t, "the name "+s, x.e, want)
			checkPattern(t, "the name "+s, tup(x.e, cons("c", x.e)), want)
		}
	}
}

// TestP6_1NamesAtTheLimit writes out what the limit of a name is.
func TestP6_1NamesAtTheLimit(t *testing.T) {
	name, capital := strings.Repeat("n", 32), strings.Repeat("N", 32)
	checkText(t, ofRule(rule(name+"."+name, exprs(variable(capital), cons(name+"."+name), field(name, variable(capital))))), name+"."+name+"("+capital+", "+name+"."+name+", "+capital+"."+name+").")
	for _, r := range []api.Rule{rule(name+"n", nil), rule(name+"n."+name, nil), rule(name+"."+name+"n", nil), rule("p", exprs(variable(capital+"N"))), rule("p", exprs(cons(name+"n"))), rule("p", exprs(cons(name+"."+name+"n"))), rule("p", exprs(field(name+"n", variable("X"))))} {
		checkRefused(t, "33 bytes", api.Module{Name: "m", Rules: []api.Rule{r}}, api.ErrForm)
	}
}
