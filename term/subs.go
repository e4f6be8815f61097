package term

import (
	"iter"

	"escrow/api"
)

// Subs: P5.6.
func (p *Pool) Subs(t api.Term) iter.Seq[api.Term] {
	if !p.holds(t) { // asked now: a term that gets this number later is not gone over
		t = 0
	}
	return func(yield func(api.Term) bool) {
		p.walk(t, map[api.Term]struct{}{}, yield)
	}
}

// walk goes over the subterms that were not met, until it is told to stop, and answers whether it came to the end.
func (p *Pool) walk(t api.Term, met map[api.Term]struct{}, yield func(api.Term) bool) bool {
	if _, again := met[t]; again || t == 0 {
		return true
	}
	met[t] = struct{}{}
	n := p.look(t).node
	return p.walk(n.A, met, yield) && p.walk(n.B, met, yield) && yield(t)
}

// Copy: P5.7.
func (p *Pool) Copy(q *Pool, t api.Term) (api.Term, api.Errno) {
	switch {
	case p == nil:
		return 0, api.OK
	case !q.holds(t):
		return 0, api.ErrTerm
	}
	before := p.Len()
	own := map[api.Term]api.Term{} // q's terms as p's
	for u := range q.Subs(t) {
		n, _ := q.Node(u)
		n.A, n.B = own[n.A], own[n.B]
		v, why := p.Make(n)
		if why != api.OK {
			p.cut(before)
			return 0, why
		}
		own[u] = v
	}
	return own[t], api.OK
}
