package decl

import "corollary/api"

// requireInhabited refuses types that are not inhabited.
func (k *maker) requireInhabited(m api.Module) error {
	inhabited := inhabitedOf(m.Types)
	for _, d := range m.Types {
		if !inhabited[d.Name] {
			return fault{d.Pos, api.ErrNone}
		}
	}
	return nil
}

// constructor is one of a type: how many times a declared type that is not known to be inhabited is needed for a value of it.
type constructor struct {
	of      string
	missing int
}

// inhabitedOf are the types that are inhabited: first those with constructors that need no declared types, then, one by one,
// those of constructors for which no other type is missing any more.
func inhabitedOf(types []api.TypeDef) map[string]bool {
	ready, waiting := needs(types)
	inhabited := map[string]bool{}
	for len(ready) > 0 {
		last := len(ready) - 1
		name := ready[last].of
		ready = ready[:last]
		if inhabited[name] {
			continue
		}
		inhabited[name] = true
		for _, c := range waiting[name] {
			c.missing--
			if c.missing == 0 {
				ready = append(ready, c)
			}
		}
	}
	return inhabited
}

// needs are the constructors that need no declared types, and those that need some, by these (as often as it is needed).
func needs(types []api.TypeDef) (ready []*constructor, waiting map[string][]*constructor) {
	waiting = map[string][]*constructor{}
	for _, d := range types {
		for _, c := range d.Cons {
			needing := &constructor{of: d.Name}
			var need func(x api.Type)
			need = func(x api.Type) {
				if !isPredefined(x.Name) { // whatever its Args are
					needing.missing++
					waiting[x.Name] = append(waiting[x.Name], needing)
					return
				}
				for _, arg := range x.Args {
					need(arg)
				}
			}
			for _, f := range c.Fields {
				need(f.Type)
			}
			if needing.missing == 0 {
				ready = append(ready, needing)
			}
		}
	}
	return ready, waiting
}
