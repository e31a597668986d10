package unify

// try unifies two terms, or changes nothing. It tells whether that binds a variable, and whether it is possible.
func (b *bindings) try(x, y int) (bound, unified bool) {
	root, other := b.inOrder(b.root(x), b.root(y))
	if root == other {
		return false, true
	}
	if b.terms[other].isVar() {
		return b.bind(other, root)
	}
	before := make([]int, len(b.to))
	copy(before, b.to)
	bound, unified = b.join(root, other)
	unified = unified && !(bound && b.circular(b.root(root)))
	if bound && unified {
		return true, true
	}
	b.to = before // also if no variable was bound: there is nothing to keep
	return false, unified
}

// bind has a variable lead to another root, unless it occurs in what that stands for.
func (b *bindings) bind(variable, to int) (bound, unified bool) {
	if b.terms[variable].inside && b.circular(to, variable) {
		return false, false
	}
	b.lead(variable, to)
	return true, true
}

// join has two terms, and whatever must be the same for that, lead to the same roots. It tells whether a variable now
// leads to another term, and whether no two terms have different names or numbers of arguments.
func (b *bindings) join(x, y int) (bound, alike bool) {
	pairs := [][2]int{{x, y}}
	for len(pairs) > 0 {
		last := len(pairs) - 1
		root, other := b.inOrder(b.root(pairs[last][0]), b.root(pairs[last][1]))
		pairs = pairs[:last]
		if root == other {
			continue
		}
		b.lead(other, root)
		p, q := b.terms[root], b.terms[other]
		if q.isVar() {
			bound = true
			continue
		}
		if p.name != q.name || len(p.args) != len(q.args) {
			return bound, false
		}
		for i := range p.args {
			pairs = append(pairs, [2]int{p.args[i], q.args[i]})
		}
	}
	return bound, true
}

// inOrder are two roots, first the one that is the root of both when they are unified.
func (b *bindings) inOrder(x, y int) (root, other int) {
	p, q := b.terms[x], b.terms[y]
	if p.isVar() && (!q.isVar() || q.name < p.name) {
		return y, x
	}
	return x, y
}

// circular tells whether what a root stands for, or something in it, contains itself, or one of the roots around it.
func (b *bindings) circular(n int, around ...int) bool {
	type step struct{ term, arg int }
	within := map[int]bool{n: true} // what was visited: true, while what is in it is
	for _, outer := range around {
		within[outer] = true
	}
	way := []step{{n, 0}}
	for len(way) > 0 {
		at := &way[len(way)-1]
		args := b.terms[at.term].args
		if at.arg == len(args) {
			within[at.term] = false
			way = way[:len(way)-1]
			continue
		}
		next := b.root(args[at.arg])
		at.arg++
		again, visited := within[next]
		if again {
			return true
		}
		if !visited {
			within[next] = true
			way = append(way, step{next, 0})
		}
	}
	return false
}
