package wire

import (
	"escrow/api"
	"escrow/codec"
	"escrow/term"
)

// read makes a pool of just the subterms that stand in a text, in their order; else it tells the first error, and its place.
func read(b []byte) (q *term.Pool, why api.Errno, at int) {
	q = term.New()
	r, fields := codec.New(b), kinds()
	var places []int
subterms:
	for r.Left() > 0 {
		at = r.At()
		places = append(places, at)
		n := api.Node{Kind: int(r.Byte())}
		own, known := fields[n.Kind]
		if !known {
			why = api.ErrTag
			break subterms
		}
		for _, f := range own {
			f.read(r, &n)
			if why, _ = r.Why(); why != api.OK {
				break subterms
			}
		}
		if why = add(q, n); why != api.OK {
			break subterms
		}
	}
	if why != api.OK {
		return nil, why, at
	}
	if i := inPlace(q); i < q.Len() {
		return nil, api.ErrOrder, places[i]
	}
	return q, api.OK, 0
}

// add makes the next subterm; what is there already would get no number of its own.
func add(q *term.Pool, n api.Node) api.Errno {
	if _, again := q.Has(n); again {
		return api.ErrTwice
	}
	_, why := q.Make(n)
	if why == api.ErrTerm {
		return api.ErrRef
	}
	return why
}

// inPlace is how many of the pool's terms, from the front, stand where Subs of the last one has them. Where it is not all of them, Subs comes to another one before it ends, as it ends with the last.
func inPlace(q *term.Pool) int {
	i := 0
	for t := range q.Subs(api.Term(q.Len())) {
		if int(t) != i+1 {
			break
		}
		i++
	}
	return i
}
