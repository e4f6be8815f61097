package term_test

import (
	"testing"

	"escrow/api"
	"escrow/term"
)

// P5.9: two trees have one term just if they are the same, whichever way the term was made.
func TestEachOnce(t *testing.T) {
	d := dice(1)
	p, q := term.New(), term.New()
	spelled, numbers := map[string]api.Term{}, map[api.Term]string{}
	for range 4000 {
		x := anyTree(&d, 4)
		u, s := of(t, p, x), spell(x)
		if v, known := spelled[s]; known && v != u {
			t.Fatalf("%s: %d and %d", s, u, v)
		}
		if other, known := numbers[u]; known && other != s {
			t.Fatalf("%d: %s and %s", u, s, other)
		}
		spelled[s], numbers[u] = u, s
		v, why := q.Copy(p, u)
		if why != api.OK || spell(q.Tree(v)) != s || of(t, q, x) != v {
			t.Fatalf("%s: copied %d, error %d", s, v, why)
		}
		n, _ := p.Node(u)
		holds(t, s, u, api.OK)(p.Make(n))
		holds(t, s, u, api.OK)(p.Of(p.Tree(u)))
		if w, there := p.Has(n); w != u || !there {
			t.Fatalf("%s: Has %d, %t", s, w, there)
		}
	}
	if p.Len() < 1000 {
		t.Errorf("only %d terms", p.Len())
	}
}

// P5.9: trees that are alike but for one field have terms of their own.
func TestEachOther(t *testing.T) {
	p := term.New()
	met := map[api.Term]int{}
	for i, x := range trees() {
		u := of(t, p, x)
		if j, again := met[u]; again {
			t.Errorf("%s and %s: both %d", spell(x), spell(trees()[j]), u)
		}
		met[u] = i
	}
}

// P5.11: whatever stands in a term is smaller, less deep, and has a less number.
func TestSmaller(t *testing.T) {
	d := dice(2)
	p, q := term.New(), term.New()
	for range 1500 {
		u := of(t, p, anyTree(&d, 5))
		if _, why := q.Copy(p, u); why != api.OK {
			t.Fatalf("Copy: error %d", why)
		}
	}
	for _, p := range []*term.Pool{p, q} {
		for u := api.Term(1); int(u) <= p.Len(); u++ {
			for v := range p.Subs(u) {
				if v != u && (v >= u || v < 1 || p.Size(v) >= p.Size(u) || p.Depth(v) >= p.Depth(u)) {
					t.Fatalf("%d in %d: sizes %d and %d, depths %d and %d", v, u, p.Size(v), p.Size(u), p.Depth(v), p.Depth(u))
				}
			}
		}
	}
}

// P5.3 to P5.7: whatever is made in whatever way, right and wrong, the pool tells what a list of trees does.
func TestAgainstList(t *testing.T) {
	for seed := range 40 {
		d := dice(seed)
		p, q := term.New(), term.New()
		var l plain
		for range 25 {
			x := anyTree(&d, 3)
			switch d.upTo(4) {
			case 0:
				holds(t, "Of", l.lay(x), api.OK)(p.Of(x))
			case 1:
				holds(t, "Copy", l.lay(x), api.OK)(p.Copy(q, of(t, q, x)))
			case 2:
				holds(t, "Of a wrong one", 0, api.ErrName)(p.Of(pair(x, sign(16, x))))
			case 3:
				a := api.Term(d.upTo(len(l)+3) - 1)
				if a < 1 || int(a) > len(l) {
					holds(t, "Hash of none", 0, api.ErrTerm)(p.Hash(a))
				} else {
					holds(t, "Hash", l.lay(hash(l[a-1])), api.OK)(p.Hash(a))
				}
			}
		}
		tells(t, p, l)
	}
}
