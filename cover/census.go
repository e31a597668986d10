package cover

import (
	"slices"
	"strings"

	"corollary/api"
	"corollary/decl"
)

// endless is how many forms there are of values of which there are more than any list has.
const endless = -1

// instance is a declared type, and for each of its Args whether that has values: a digit. Which constructors have values does not
// depend on anything else, so that there are few instances even where there are many types.
type instance struct{ name, args string }

// census tells in how many forms there are values of a type. A type that a program declares may have none, though it is inhabited
// as chapter 10 says: where its values would be needed in an Arg, as in t = c(box(t)).
type census struct {
	table  *decl.Table
	defs   map[string]api.TypeDef
	counts map[instance]int // how many of its constructors have values, as far as is known: never too many
	asked  []instance       // all of these, mostly behind those on which they depend
	isOpen bool             // some counts may be too low
}

func newCensus(t *decl.Table) *census {
	return &census{table: t, defs: map[string]api.TypeDef{}, counts: map[instance]int{}}
}

// forms is in how many forms there are values of a type: with how many constructors, or as how many literals. Tuples are one form.
func (c *census) forms(x api.Type) int {
	switch x.Name {
	case "bool":
		return 2
	case "int", "big", "text":
		return endless
	}
	n := c.formsKnown(x)
	for c.isOpen {
		c.isOpen = c.recount()
		n = c.formsKnown(x)
	}
	return n
}

// formsKnown is the number, as far as is known, for a tuple or a declared type.
func (c *census) formsKnown(x api.Type) int {
	if c.isDeclared(x.Name) {
		return c.count(c.instance(x, nil))
	}
	if c.hasValues(x, nil) {
		return 1
	}
	return 0
}

// hasValues tells whether there are values of a type, as far as is known, where some parameters stand for types with values.
func (c *census) hasValues(x api.Type, params map[string]bool) bool {
	switch {
	case strings.HasPrefix(x.Name, "'"):
		return params[x.Name]
	case c.isDeclared(x.Name):
		return c.count(c.instance(x, params)) > 0
	}
	return all(x.Args, func(arg api.Type) bool { return c.hasValues(arg, params) })
}

func (c *census) isDeclared(name string) bool {
	if _, known := c.defs[name]; known {
		return true
	}
	d, there := c.table.Type(name)
	if there {
		c.defs[name] = d
	}
	return there
}

func (c *census) instance(x api.Type, params map[string]bool) instance {
	var args strings.Builder
	for _, arg := range x.Args {
		if c.hasValues(arg, params) {
			args.WriteByte('1')
		} else {
			args.WriteByte('0')
		}
	}
	return instance{x.Name, args.String()}
}

// count is how many constructors of an instance have values, as far as is known.
func (c *census) count(i instance) int {
	if _, known := c.counts[i]; !known {
		c.counts[i] = 0 // as long as it is being counted, for it may contain itself
		c.counts[i] = c.counted(i)
		c.asked = append(c.asked, i)
		c.isOpen = true
	}
	return c.counts[i]
}

// counted counts the constructors of an instance all of whose fields have values, as far as is known.
func (c *census) counted(i instance) int {
	d := c.defs[i.name]
	params := map[string]bool{}
	for k, name := range slices.Backward(d.Params) { // so that the first one of a name is the one that remains
		params[name] = i.args[k] == '1'
	}
	n := 0
	for _, constructor := range d.Cons {
		if all(constructor.Fields, func(f api.FieldDef) bool { return c.hasValues(f.Type, params) }) {
			n++
		}
	}
	return n
}

// recount counts all again. It tells whether that has changed anything.
func (c *census) recount() bool {
	changed := false
	for n := 0; n < len(c.asked); n++ { // also what is asked for the first time meanwhile
		i := c.asked[n]
		counted := c.counted(i)
		changed = changed || counted != c.counts[i]
		c.counts[i] = counted
	}
	return changed
}
