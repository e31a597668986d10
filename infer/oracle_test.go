package infer_test

import (
	"slices"
	"strconv"
	"strings"

	"corollary/api"
	"corollary/decl"
	"corollary/infer"
	"corollary/tree"
)

// wrong is the first error of a module, and where it is.
type wrong struct {
	at api.Pos
	e  api.Errno
}

// reading is an independent reading of the chapter: types are unified at once, and what a variable stands for is put in its
// place everywhere.
type reading struct {
	m       api.Module
	stands  map[string]api.Type
	vars    map[string]api.Type
	names   []string
	last    int
	fields  []openField
	numbers []openNumber
}

type openField struct {
	x          api.Expr
	of, result api.Type
}

type openNumber struct {
	at api.Pos
	x  api.Type
}

// readAll are the types of a module, or its first error.
func readAll(m api.Module) (result infer.Types, first wrong) {
	defer func() {
		if thrown := recover(); thrown != nil {
			result, first = infer.Types{}, thrown.(wrong) // or another panic
		}
	}()
	if _, at, e := decl.New(m); e != api.OK {
		panic(wrong{at, e})
	}
	readDeclared(m)
	for _, r := range m.Rules {
		result.Rules = append(result.Rules, readRule(m, r))
	}
	for _, n := range m.Nevers {
		result.Nevers = append(result.Nevers, readRule(m, api.Rule{Pos: n.Pos, Body: n.Body}))
	}
	return result, wrong{}
}

func readDeclared(m api.Module) {
	for _, d := range m.Types {
		for _, c := range d.Cons {
			for _, f := range c.Fields {
				if isOver(f.Type) {
					panic(wrong{d.Pos, api.ErrTooLarge})
				}
			}
		}
	}
	for _, d := range m.Rels {
		e := api.OK
		for _, f := range d.Fields {
			if isOver(f.Type) {
				e = api.ErrTooLarge
			} else if e == api.OK && strings.Contains(shown(f.Type), "'") {
				e = api.ErrType
			}
		}
		if e != api.OK {
			panic(wrong{d.Pos, e})
		}
	}
}

func partsOf(x api.Type) int {
	n := 1
	for _, arg := range x.Args {
		n += partsOf(arg)
	}
	return n
}

func depthOf(x api.Type) int {
	n := 0
	for _, arg := range x.Args {
		n = max(n, depthOf(arg))
	}
	return n + 1
}

func isOver(x api.Type) bool { return partsOf(x) > 2048 || depthOf(x) > 64 }

func levelsOf(x api.Expr) int {
	n := 0
	for _, arg := range x.Args {
		n = max(n, levelsOf(arg))
	}
	return n + 1
}

// readForms throws what is wrong with the form of a rule.
func readForms(r api.Rule) {
	type place struct {
		x         api.Expr
		isPattern bool
	}
	var places []place
	isWrong := false
	for i, x := range r.Args {
		places = append(places, place{x, false})
		isWrong = isWrong || !slices.Contains([]string{"", "count", "sum", "min", "max"}, r.Aggs[i])
	}
	for _, l := range r.Body {
		for _, x := range l.Args {
			places = append(places, place{x, l.Kind == api.Atom || l.Kind == api.Not})
		}
		hasOne := l.Kind == api.Cond || l.Kind == api.Bind
		isWrong = isWrong || l.Kind < 1 || l.Kind > 4 || hasOne && len(l.Args) != 1 || l.Kind == api.Bind && (l.Rel == "" || l.Rel[0] < 'A' || l.Rel[0] > 'Z')
	}
	for _, p := range places {
		if levelsOf(p.x) > 64 {
			panic(wrong{r.Pos, api.ErrDeep})
		}
		_, e := tree.Expr(p.x)
		isWrong = isWrong || p.isPattern && !tree.Pattern(p.x) || !p.isPattern && e != api.OK
	}
	if isWrong {
		panic(wrong{r.Pos, api.ErrForm})
	}
}

func readRule(m api.Module, r api.Rule) []infer.Var {
	readForms(r)
	o := &reading{m: m, stands: map[string]api.Type{}, vars: map[string]api.Type{}}
	for _, l := range r.Body {
		o.literal(l)
	}
	for i, x := range r.Args {
		a := o.typeOf(x)
		if r.Aggs[i] == "count" {
			a = typ("int")
		}
		o.unify(a, o.fieldsOf(r.Rel)[i].Type, x.Pos)
		if r.Aggs[i] == "sum" {
			o.numbers = append(o.numbers, openNumber{x.Pos, a})
		}
	}
	o.settleFields()
	for _, n := range o.numbers {
		if x := o.resolved(n.x); isOver(x) || x.Name != "int" && x.Name != "big" {
			panic(wrong{n.at, api.ErrType})
		}
	}
	return o.result(r.Pos)
}

func (o *reading) fieldsOf(rel string) []api.FieldDef {
	return o.m.Rels[slices.IndexFunc(o.m.Rels, func(d api.RelDef) bool { return d.Name == rel })].Fields
}

func (o *reading) literal(l api.Literal) {
	switch l.Kind {
	case api.Cond:
		o.unify(o.typeOf(l.Args[0]), typ("bool"), l.Pos)
	case api.Bind:
		x := o.variable(l.Rel)
		o.unify(x, o.typeOf(l.Args[0]), l.Pos)
	default:
		for i, x := range l.Args {
			o.unify(o.typeOf(x), o.fieldsOf(l.Rel)[i].Type, x.Pos)
		}
	}
}

func (o *reading) unknown() api.Type {
	o.last++
	return typ("'" + strconv.Itoa(o.last))
}

func (o *reading) variable(name string) api.Type {
	if _, known := o.vars[name]; !known {
		o.vars[name] = o.unknown()
		o.names = append(o.names, name)
	}
	return o.vars[name]
}

func (o *reading) typeOf(x api.Expr) api.Type {
	var l []api.Type
	if x.Kind != api.Var {
		for _, arg := range x.Args {
			l = append(l, o.typeOf(arg))
		}
	}
	switch x.Kind {
	case api.Lit:
		return typ([]string{"", "bool", "int", "big", "text"}[x.Value.Kind])
	case api.Var:
		return o.variable(x.Name)
	case api.Tup:
		return typ("tuple", l...)
	case api.Make:
		d, c := o.constructor(x.Name)
		own := typ(d.Name)
		for range d.Params {
			own.Args = append(own.Args, o.unknown())
		}
		for i, f := range c.Fields {
			o.unify(l[i], putIn(f.Type, d.Params, own.Args), x.Args[i].Pos)
		}
		return own
	case api.Call:
		return o.call(x, l)
	case api.Field:
		f := openField{x, l[0], o.unknown()}
		o.fields = append(o.fields, f)
		return f.result
	case api.If:
		o.unify(l[0], typ("bool"), x.Pos)
		o.unify(l[1], l[2], x.Pos)
		return l[1]
	}
	return o.unknown()
}

func (o *reading) call(x api.Expr, l []api.Type) api.Type {
	all := func(name string) {
		for _, a := range l {
			o.unify(a, typ(name), x.Pos)
		}
	}
	switch x.Name {
	case "neg":
		o.numbers = append(o.numbers, openNumber{x.Pos, l[0]})
		return l[0]
	case "+", "-", "*", "/", "%":
		o.unify(l[0], l[1], x.Pos)
		o.numbers = append(o.numbers, openNumber{x.Pos, l[0]})
		return l[0]
	case "++":
		all("text")
		return typ("text")
	case "and", "or", "not":
		all("bool")
		return typ("bool")
	case "len":
		all("text")
		return typ("int")
	case "big":
		all("int")
		return typ("big")
	case "int":
		all("big")
		return typ("int")
	}
	o.unify(l[0], l[1], x.Pos)
	return typ("bool")
}

func (o *reading) constructor(name string) (api.TypeDef, api.ConsDef) {
	for _, d := range o.m.Types {
		for _, c := range d.Cons {
			if c.Name == name {
				return d, c
			}
		}
	}
	panic("no constructor " + name)
}

// putIn is a type with others in the place of the parameters of a declared one.
func putIn(x api.Type, params []string, args []api.Type) api.Type {
	if i := slices.Index(params, x.Name); i >= 0 && strings.HasPrefix(x.Name, "'") {
		return args[i]
	}
	result := typ(x.Name)
	for _, arg := range x.Args {
		result.Args = append(result.Args, putIn(arg, params, args))
	}
	return result
}

// settleFields settles them as the chapter says: each time the first one that can be.
func (o *reading) settleFields() {
	for len(o.fields) > 0 {
		n := slices.IndexFunc(o.fields, func(f openField) bool {
			x := o.resolved(f.of)
			return !isOver(x) && !strings.HasPrefix(x.Name, "'")
		})
		if n < 0 {
			panic(wrong{o.fields[0].x.Pos, api.ErrType})
		}
		f, of := o.fields[n], o.resolved(o.fields[n].of)
		o.fields = slices.Delete(o.fields, n, n+1)
		isKnown := false
		for _, d := range o.m.Types {
			if d.Name != of.Name || len(d.Cons) != 1 {
				continue
			}
			for _, field := range d.Cons[0].Fields {
				if field.Name == f.x.Name {
					isKnown = true
					o.unify(putIn(field.Type, d.Params, of.Args), f.result, f.x.Pos)
				}
			}
		}
		if !isKnown {
			panic(wrong{f.x.Pos, api.ErrType})
		}
	}
}

// resolved is a type in which no variable stands for anything.
func (o *reading) resolved(x api.Type) api.Type {
	if by, stands := o.stands[x.Name]; stands {
		return by
	}
	result := typ(x.Name)
	for _, arg := range x.Args {
		result.Args = append(result.Args, o.resolved(arg))
	}
	return result
}

func (o *reading) unify(a, b api.Type, at api.Pos) {
	if isOver(a) || isOver(b) || !o.unified(a, b) {
		panic(wrong{at, api.ErrType})
	}
}

func (o *reading) unified(a, b api.Type) bool {
	a, b = o.resolved(a), o.resolved(b)
	if !strings.HasPrefix(a.Name, "'") {
		a, b = b, a
	}
	if !strings.HasPrefix(a.Name, "'") {
		return a.Name == b.Name && len(a.Args) == len(b.Args) && !slices.ContainsFunc(indexes(a.Args), func(i int) bool { return !o.unified(a.Args[i], b.Args[i]) })
	}
	if a.Name == b.Name {
		return true
	}
	if slices.Contains(strings.FieldsFunc(shown(b), func(r rune) bool { return strings.ContainsRune("(), ", r) }), a.Name) {
		return false
	}
	for name, x := range o.stands {
		o.stands[name] = putIn(x, []string{a.Name}, []api.Type{b})
	}
	o.stands[a.Name] = b
	return true
}

func indexes[T any](l []T) []int {
	var all []int
	for i := range l {
		all = append(all, i)
	}
	return all
}

// result are the variables with their types, of which the unknown parts are named in order.
func (o *reading) result(at api.Pos) []infer.Var {
	var vars []infer.Var
	names := map[string]string{}
	for _, name := range o.names {
		x := o.resolved(o.vars[name])
		if isOver(x) {
			panic(wrong{at, api.ErrTooLarge})
		}
		vars = append(vars, infer.Var{Name: name, Type: renamed(x, names)})
	}
	return vars
}

// renamed is a type whose variables have the names of their order: 'a, 'b, .. 'z, 'a1, ..
func renamed(x api.Type, names map[string]string) api.Type {
	result := typ(x.Name)
	if strings.HasPrefix(x.Name, "'") {
		if _, known := names[x.Name]; !known {
			n := len(names)
			names[x.Name] = "'" + "abcdefghijklmnopqrstuvwxyz"[n%26:n%26+1] + strings.TrimPrefix(strconv.Itoa(n/26), "0")
		}
		result.Name = names[x.Name]
	}
	for _, arg := range x.Args {
		result.Args = append(result.Args, renamed(arg, names))
	}
	return result
}
