package unify_test

import (
	"slices"
	"strconv"
	"strings"

	"corollary/api"
)

// oracle is an independent reading of the chapter: it keeps the pairs that were unified, and solves them anew each time.
type oracle struct {
	pairs []pair
	given map[string]bool
	last  int
}

func newOracle() *oracle { return &oracle{given: map[string]bool{}} }

func (o *oracle) copy() *oracle {
	x := newOracle()
	x.pairs, x.last = slices.Clone(o.pairs), o.last
	for name := range o.given {
		x.given[name] = true
	}
	return x
}

func isVariable(x api.Type) bool {
	return strings.HasPrefix(x.Name, "'") && x.Name != "'" && len(x.Args) == 0
}

// variablesIn are those of types, in the order of their first occurrence.
func variablesIn(l ...api.Type) []string {
	var names []string
	for _, x := range l {
		if isVariable(x) && !slices.Contains(names, x.Name) {
			names = append(names, x.Name)
		}
		for _, name := range variablesIn(x.Args...) {
			if !slices.Contains(names, name) {
				names = append(names, name)
			}
		}
	}
	return names
}

// put is a type with another one in the place of a variable.
func put(x api.Type, name string, by api.Type) api.Type {
	if isVariable(x) && x.Name == name {
		return by
	}
	result := typ(x.Name)
	for _, arg := range x.Args {
		result.Args = append(result.Args, put(arg, name, by))
	}
	return result
}

// solution are equations of variables, each of which occurs nowhere but there.
type solution map[string]api.Type

func (s solution) applied(x api.Type) api.Type {
	if by, bound := s[x.Name]; bound {
		return by
	}
	result := typ(x.Name)
	for _, arg := range x.Args {
		result.Args = append(result.Args, s.applied(arg))
	}
	return result
}

// solved takes equations one by one, taking types apart and replacing variables everywhere.
func solved(pairs []pair) (solution, bool) {
	s, rest := solution{}, slices.Clone(pairs)
	for len(rest) > 0 {
		a, b := s.applied(rest[0].a), s.applied(rest[0].b)
		rest = rest[1:]
		if isVariable(b) && !isVariable(a) {
			a, b = b, a
		}
		switch {
		case isVariable(a):
			if alikeOnes(a, b) {
				continue
			}
			if slices.Contains(variablesIn(b), a.Name) {
				return nil, false
			}
			for name, x := range s {
				s[name] = put(x, a.Name, b)
			}
			s[a.Name] = b
		case a.Name != b.Name || len(a.Args) != len(b.Args):
			return nil, false
		default:
			for i := range a.Args {
				rest = append(rest, pair{a.Args[i], b.Args[i]})
			}
		}
	}
	return s, true
}

// least is a solution in which variables that are unified only with one another stand for the least of them.
func least(s solution) solution {
	result := solution{}
	renamed := map[string]api.Type{}
	for name, x := range s {
		if !isVariable(x) {
			continue
		}
		known, there := renamed[x.Name]
		if !there {
			known = x
		}
		renamed[x.Name] = typ(min(known.Name, name))
	}
	for name, x := range s {
		result[name] = solution(renamed).applied(x)
	}
	for name, x := range renamed {
		result[name] = x
	}
	return result
}

func (o *oracle) give(l ...api.Type) {
	for _, name := range variablesIn(l...) {
		o.given[name] = true
	}
}

func (o *oracle) newVar() api.Type {
	for {
		o.last++
		if name := "'" + strconv.Itoa(o.last); !o.given[name] {
			return typ(name)
		}
	}
}

func (o *oracle) fresh(l []api.Type) []api.Type {
	o.give(l...)
	s := solution{}
	for _, name := range variablesIn(l...) {
		s[name] = o.newVar()
	}
	var result []api.Type
	for _, x := range l {
		result = append(result, s.applied(x))
	}
	return result
}

func (o *oracle) unify(a, b api.Type) api.Errno {
	o.give(a, b)
	pairs := append(slices.Clone(o.pairs), pair{a, b})
	if _, is := solved(pairs); !is {
		return api.ErrType
	}
	o.pairs = pairs
	return api.OK
}

func (o *oracle) resolve(x api.Type) api.Type {
	o.give(x)
	s, _ := solved(o.pairs)
	return least(s).applied(x)
}
