package infer

import "corollary/api"

// fault is what is wrong with a program, and where; or nothing, if it is zero.
type fault struct {
	at api.Pos
	e  api.Errno
}
