package decl

import "corollary/api"

// requireUses refuses relations and constructors that are not used as they are declared, in rules and then in nevers.
func (k *maker) requireUses(m api.Module) error {
	for _, r := range m.Rules {
		if err := k.requireRule(r); err != nil {
			return err
		}
	}
	for _, n := range m.Nevers {
		if err := k.requireBody(n.Body); err != nil {
			return err
		}
	}
	return nil
}

func (k *maker) requireRule(r api.Rule) error {
	d, there := k.rels[r.Rel]
	switch {
	case !there:
		return fault{r.Pos, api.ErrName}
	case d.Input:
		return fault{r.Pos, api.ErrState}
	case len(r.Aggs) != len(r.Args):
		return fault{r.Pos, api.ErrForm}
	case len(r.Args) != len(d.Fields):
		return fault{r.Pos, api.ErrType}
	}
	if err := k.requireArgs(r.Args, givenDepth); err != nil {
		return err
	}
	return k.requireBody(r.Body)
}

func (k *maker) requireBody(body []api.Literal) error {
	for _, l := range body {
		if err := k.requireLiteral(l); err != nil {
			return err
		}
	}
	return nil
}

func (k *maker) requireLiteral(l api.Literal) error {
	if l.Kind == api.Atom || l.Kind == api.Not {
		d, there := k.rels[l.Rel]
		switch {
		case !there:
			return fault{l.Pos, api.ErrName}
		case len(l.Args) != len(d.Fields):
			return fault{l.Pos, api.ErrType}
		}
	}
	return k.requireArgs(l.Args, givenDepth)
}

// requireArgs refuses wrong arguments: each one before those in it. In more levels than a program may have there is nothing
// to be found: it contains itself.
func (k *maker) requireArgs(args []api.Expr, levels int) error {
	for _, x := range args {
		if k.room--; k.room < 0 || levels == 0 {
			return fault{x.Pos, api.ErrDeep}
		}
		if x.Kind == api.Make {
			if e := k.makeError(x); e != api.OK {
				return fault{x.Pos, e}
			}
		}
		if err := k.requireArgs(x.Args, levels-1); err != nil {
			return err
		}
	}
	return nil
}

// makeError is what is wrong with a constructor and its arguments, whatever these are.
func (k *maker) makeError(x api.Expr) api.Errno {
	at, there := k.cons[x.Name]
	switch {
	case !there:
		return api.ErrName
	case len(x.Args) != len(k.types[at.of].def.Cons[at.n].Fields):
		return api.ErrType
	}
	return api.OK
}
