package term_test

import (
	"slices"
	"testing"

	"escrow/api"
	"escrow/term"
)

// P5.7: the same tree, its subterms made in the order of Subs; what is there already is not made again.
func TestCopy(t *testing.T) {
	q := term.New()
	for _, x := range trees() {
		of(t, q, x)
	}
	for from := range len(trees()) {
		p, l := term.New(), plain{}
		for i := range trees() {
			x := trees()[(from+i)%len(trees())]
			long := q.Len()
			holds(t, spell(x), l.lay(x), api.OK)(p.Copy(q, of(t, q, x)))
			if q.Len() != long {
				t.Fatal("Copy changes the other pool")
			}
		}
		tells(t, p, l)
	}
}

// P5.7: what was copied stays as it is, whatever becomes of the other pool.
func TestCopyApart(t *testing.T) {
	p, q := term.New(), term.New()
	x := sign(1, pair(data("a"), num(5)))
	of(t, q, name(0))
	holds(t, "Copy", 4, api.OK)(p.Copy(q, of(t, q, x)))
	of(t, q, data("b"))
	of(t, p, data("c"))
	tells(t, p, plain{data("a"), num(5), pair(data("a"), num(5)), x, data("c")})
	tells(t, q, plain{name(0), data("a"), num(5), pair(data("a"), num(5)), x, data("b")})
}

// P5.7: of the pool itself: the term, also where there is no room.
func TestCopyToItself(t *testing.T) {
	p := filled(t, 4)
	u := of(t, p, pair(data("a"), sign(0, data("b"))))
	for v := range p.Subs(u) {
		holds(t, "of itself", v, api.OK)(p.Copy(p, v))
	}
	for _, v := range strange(p.Len()) {
		holds(t, "of itself, none", 0, api.ErrTerm)(p.Copy(p, v))
	}
	if p.Len() != api.MaxTerms {
		t.Errorf("%d terms", p.Len())
	}
}

// P5.7: ErrTerm: t is no term of q, whether or not it is one of p, and ahead of ErrMany.
func TestCopyErrTerm(t *testing.T) {
	full, one, none := filled(t, 0), three(t), term.New()
	for _, p := range []*term.Pool{full, one, none} {
		for _, q := range []*term.Pool{one, none, nil} {
			for _, u := range append(strange(q.Len()), 4, 5) {
				long := p.Len()
				holds(t, "Copy of none", 0, api.ErrTerm)(p.Copy(q, u))
				if p.Len() != long {
					t.Fatalf("%d terms", p.Len())
				}
			}
		}
	}
}

// P5.7: ErrMany, if more is new than there is room for, and then nothing was added.
func TestCopyFull(t *testing.T) {
	q := term.New()
	of(t, q, name(7))
	u := of(t, q, pair(sign(0, data("a")), prom(1, 0, pair(num(0), data("a"))))) // five that are new
	for room := range 7 {
		p := filled(t, room)
		long := p.Len()
		if room >= 5 {
			holds(t, "with room", api.Term(long+5), api.OK)(p.Copy(q, u))
			continue
		}
		for range 2 {
			holds(t, "without room", 0, api.ErrMany)(p.Copy(q, u))
		}
		if p.Len() != long {
			t.Errorf("room %d: %d terms", room, p.Len())
		}
		for v := range q.Subs(u) {
			n, _ := q.Node(v)
			if n.A == 0 && n.Kind == api.KindData {
				if w, there := p.Has(n); w != 0 || there {
					t.Errorf("room %d: a part was left", room)
				}
			}
		}
		noTerm(t, p, api.Term(long+1))
		holds(t, "one that is there", 1, api.OK)(p.Num(0))
		if room > 0 {
			holds(t, "the next", api.Term(long+1), api.OK)(p.Name(9))
		}
	}
}

// P5.7: the largest and the deepest terms are copied whole.
func TestCopyLargest(t *testing.T) {
	q := term.New()
	for _, x := range []api.Tree{hash(broad(4095)), tower(63, name(1))} {
		u, p := of(t, q, x), term.New()
		v, why := p.Copy(q, u)
		if why != api.OK || spell(p.Tree(v)) != spell(x) || len(slices.Collect(q.Subs(u))) != p.Len() {
			t.Errorf("error %d, size %d", why, p.Size(v))
		}
	}
}
