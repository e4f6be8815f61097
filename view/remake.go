package view

import (
	"escrow/api"
	"escrow/term"
)

// remaking is a function that makes terms anew, each node of the kind that is answered for it. It keeps what it made, so that a term that stands in many is gone through once.
func remaking(p *term.Pool, kind func(n api.Node) int) func(t api.Term) (api.Term, api.Errno) {
	anew := map[api.Term]api.Term{0: 0} // what a node does not have stays so
	var remake func(t api.Term) (api.Term, api.Errno)
	remake = func(t api.Term) (api.Term, api.Errno) {
		if u, again := anew[t]; again {
			return u, api.OK
		}
		n, _ := p.Node(t)
		n.Kind = kind(n)
		for _, part := range [...]*api.Term{&n.A, &n.B} {
			u, why := remake(*part)
			if why != api.OK {
				return 0, why
			}
			*part = u
		}
		u, why := p.Make(n)
		if why == api.OK {
			anew[t] = u
		}
		return u, why
	}
	return remake
}
