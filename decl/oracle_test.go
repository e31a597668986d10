package decl_test

import (
	"slices"
	"strings"

	"corollary/api"
	"corollary/value"
)

// claim is something that is wrong with a module if it is so.
type claim struct {
	at api.Pos
	e  api.Errno
	is bool
}

// claims is an independent reading of the chapter: all that may be wrong with a module, in order, nothing being found by maps.
type claims struct {
	m api.Module
	l []claim
}

// firstWrong is the first thing that is wrong with a module.
func firstWrong(m api.Module) (api.Pos, api.Errno) {
	c := claims{m: m}
	c.twice()
	for _, d := range m.Types {
		for _, k := range d.Cons {
			for _, f := range k.Fields {
				c.typed(d.Pos, f.Type, func(name string) bool { return slices.Contains(d.Params, name) })
			}
		}
	}
	if !slices.ContainsFunc(c.l, func(x claim) bool { return x.is }) {
		inhabited := c.inhabited()
		for _, d := range m.Types {
			c.say(d.Pos, api.ErrNone, !slices.Contains(inhabited, d.Name))
		}
	}
	for i, d := range m.Rels {
		earlier := slices.ContainsFunc(m.Rels[:i], func(x api.RelDef) bool { return x.Name == d.Name })
		c.say(d.Pos, api.ErrTwice, earlier || nameTwice(d.Fields))
		for _, f := range d.Fields {
			c.typed(d.Pos, f.Type, func(string) bool { return true })
		}
	}
	c.uses()
	for _, x := range c.l {
		if x.is {
			return x.at, x.e
		}
	}
	return api.Pos{}, api.OK
}

func (c *claims) say(at api.Pos, e api.Errno, is bool) { c.l = append(c.l, claim{at, e, is}) }

func nameTwice(fields []api.FieldDef) bool {
	for i, f := range fields {
		for _, g := range fields[:i] {
			if f.Name == g.Name && f.Name != "" {
				return true
			}
		}
	}
	return false
}

func (c *claims) twice() {
	var constructors []string
	for i, d := range c.m.Types {
		c.say(d.Pos, api.ErrTwice, predefined(d.Name) || slices.ContainsFunc(c.m.Types[:i], func(x api.TypeDef) bool { return x.Name == d.Name }))
		for _, k := range d.Cons {
			c.say(d.Pos, api.ErrTwice, slices.Contains(constructors, k.Name) || nameTwice(k.Fields))
			constructors = append(constructors, k.Name)
		}
	}
}

func predefined(name string) bool {
	return slices.Contains(strings.Fields("bool int big text tuple"), name) || parameter(name)
}

func parameter(name string) bool { return name != "" && name[0] == '\'' }

// parts are a type and all types in it.
func parts(x api.Type) []api.Type {
	l := []api.Type{x}
	for _, arg := range x.Args {
		l = append(l, parts(arg)...)
	}
	return l
}

func depth(x api.Type) int {
	deepest := 0
	for _, arg := range x.Args {
		deepest = max(deepest, depth(arg))
	}
	return 1 + deepest
}

func (c *claims) typed(at api.Pos, x api.Type, may func(string) bool) {
	all := parts(x)
	c.say(at, api.ErrDeep, depth(x) > 64)
	for _, part := range all {
		if parameter(part.Name) {
			c.say(at, api.ErrName, !may(part.Name))
		} else {
			c.say(at, api.ErrName, !predefined(part.Name) && c.typeOf(part.Name) == nil)
		}
	}
	for _, part := range all {
		c.say(at, api.ErrType, !c.wellFormed(part))
	}
	for _, part := range all {
		for _, arg := range part.Args {
			if !predefined(part.Name) && !parameter(arg.Name) {
				c.say(at, api.ErrGrow, slices.ContainsFunc(parts(arg), func(y api.Type) bool { return parameter(y.Name) }))
			}
		}
	}
}

func (c *claims) typeOf(name string) *api.TypeDef {
	for i, d := range c.m.Types {
		if d.Name == name {
			return &c.m.Types[i]
		}
	}
	return nil
}

func (c *claims) wellFormed(x api.Type) bool {
	if x.Name == "tuple" {
		return len(x.Args) != 1 && len(x.Args) <= 16
	}
	if predefined(x.Name) {
		return len(x.Args) == 0
	}
	d := c.typeOf(x.Name)
	return d != nil && len(d.Params) == len(x.Args)
}

// inhabited are the names of the declared types that are inhabited: in each round those are added that have values by means of the others.
func (c *claims) inhabited() []string {
	var names []string
	for range c.m.Types {
		var more []string
		for _, d := range c.m.Types {
			if slices.ContainsFunc(d.Cons, func(k api.ConsDef) bool {
				return !slices.ContainsFunc(k.Fields, func(f api.FieldDef) bool { return !isInhabited(f.Type, names) })
			}) {
				more = append(more, d.Name)
			}
		}
		names = more
	}
	return names
}

func isInhabited(x api.Type, names []string) bool {
	if x.Name == "tuple" {
		return !slices.ContainsFunc(x.Args, func(arg api.Type) bool { return !isInhabited(arg, names) })
	}
	return predefined(x.Name) || slices.Contains(names, x.Name)
}

func (c *claims) uses() {
	for _, r := range c.m.Rules {
		d := c.relOf(r.Rel)
		c.say(r.Pos, api.ErrName, d == nil)
		c.say(r.Pos, api.ErrState, d != nil && d.Input)
		c.say(r.Pos, api.ErrForm, len(r.Args) != len(r.Aggs))
		c.say(r.Pos, api.ErrType, d != nil && len(r.Args) != len(d.Fields))
		c.args(r.Args)
		c.body(r.Body)
	}
	for _, n := range c.m.Nevers {
		c.body(n.Body)
	}
}

func (c *claims) relOf(name string) *api.RelDef {
	for i, d := range c.m.Rels {
		if d.Name == name {
			return &c.m.Rels[i]
		}
	}
	return nil
}

func (c *claims) body(body []api.Literal) {
	for _, x := range body {
		if x.Kind == 1 || x.Kind == 2 {
			d := c.relOf(x.Rel)
			c.say(x.Pos, api.ErrName, d == nil)
			c.say(x.Pos, api.ErrType, d != nil && len(x.Args) != len(d.Fields))
		}
		c.args(x.Args)
	}
}

func (c *claims) args(args []api.Expr) {
	for _, x := range args {
		if x.Kind == 5 {
			d, place := c.consOf(x.Name)
			c.say(x.Pos, api.ErrName, d == nil)
			c.say(x.Pos, api.ErrType, d != nil && len(d.Cons[place].Fields) != len(x.Args))
		}
		c.args(x.Args)
	}
}

func (c *claims) consOf(name string) (*api.TypeDef, int) {
	for i, d := range c.m.Types {
		for k, x := range d.Cons {
			if x.Name == name {
				return &c.m.Types[i], k
			}
		}
	}
	return nil, 0
}

// putIn is a type with others in the place of parameters.
func putIn(x api.Type, params []string, args []api.Type) api.Type {
	if i := slices.Index(params, x.Name); parameter(x.Name) && i >= 0 && i < len(args) {
		return args[i]
	}
	result := typ(x.Name)
	for _, arg := range x.Args {
		result.Args = append(result.Args, putIn(arg, params, args))
	}
	return result
}

// isWell tells whether values may have a type.
func (c *claims) isWell(x api.Type) bool {
	for _, part := range parts(x) {
		if parameter(part.Name) || !c.wellFormed(part) {
			return false
		}
	}
	return depth(x) <= 64
}

// isOf tells whether a value has a type.
func (c *claims) isOf(v api.Value, x api.Type) bool {
	return value.Check(v) == api.OK && c.isWell(x) && c.has(v, x)
}

func (c *claims) has(v api.Value, x api.Type) bool {
	var args []api.Type
	switch v.Kind {
	case api.Tuple:
		if x.Name != "tuple" {
			return false
		}
		args = x.Args
	case api.Cons:
		d, place := c.consOf(v.S)
		if d == nil || d.Name != x.Name {
			return false
		}
		for _, f := range d.Cons[place].Fields {
			args = append(args, putIn(f.Type, d.Params, x.Args))
		}
	default:
		return x.Name == []string{"", "bool", "int", "big", "text"}[v.Kind]
	}
	if len(args) != len(v.L) {
		return false
	}
	for i, arg := range args {
		if !c.has(v.L[i], arg) {
			return false
		}
	}
	return true
}
