package infer

import "corollary/api"

// outcome is what becomes of a requirement when it is executed.
type outcome int

const (
	isMet outcome = iota
	isNotMet
	isOpen // it cannot be told yet, and nothing was done
)

// requirement is what types must be, and where it is an error if they are not. It is kept until all types of a rule have been
// entered, and then executed.
type requirement struct {
	at      api.Pos
	execute func() outcome
}

// meet executes requirements: as long as there is one, the first one of which it can be told whether it is met. If one is not met,
// or if it can be told of none that is left, it tells the position.
func meet(l []requirement) (api.Pos, bool) {
	for len(l) > 0 {
		n, found := firstTold(l)
		if found != isMet {
			return l[n].at, false
		}
		copy(l[1:n+1], l[:n]) // those before it remain in order, for they may be told now
		l = l[1:]
	}
	return api.Pos{}, true
}

// firstTold executes requirements up to the first one of which it can be told whether it is met. If there is none, it is the
// first one of all that remains open.
func firstTold(l []requirement) (int, outcome) {
	for i, r := range l {
		if found := r.execute(); found != isOpen {
			return i, found
		}
	}
	return 0, isOpen
}
