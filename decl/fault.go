package decl

import "corollary/api"

// fault is what is wrong with a program, and where.
type fault struct {
	at api.Pos
	e  api.Errno
}

// Error tells the number as a text.
func (f fault) Error() string { return f.e.Error() }

// Unwrap is the error without its position.
func (f fault) Unwrap() error { return f.e }
