package term_test

import (
	"testing"

	"escrow/api"
	"escrow/term"
)

// P5.3: a depth of 64 may be, and no more, in each kind that is made of others.
func TestDeepest(t *testing.T) {
	p := term.New()
	low, deep := of(t, p, num(7)), of(t, p, tower(api.MaxDepth-1, num(7)))
	under := of(t, p, tower(api.MaxDepth-2, num(7)))
	long := p.Len()
	if p.Depth(deep) != 64 || p.Depth(under) != 63 {
		t.Fatalf("depths %d and %d", p.Depth(deep), p.Depth(under))
	}
	for _, n := range []api.Node{
		{Kind: api.KindHash, A: deep}, {Kind: api.KindSign, From: 1, A: deep}, {Kind: api.KindProm, From: 1, A: deep}, {Kind: api.KindFake, From: 1, A: deep},
		{Kind: api.KindPair, A: deep, B: low}, {Kind: api.KindPair, A: low, B: deep}, {Kind: api.KindPair, A: deep, B: deep},
	} {
		holds(t, "too deep", 0, api.ErrLarge)(p.Make(n))
		if _, there := p.Has(n); there || p.Len() != long {
			t.Fatalf("%v was added", n)
		}
		if n.A == deep {
			n.A = under
		}
		if n.B == deep {
			n.B = under
		}
		if n.Kind == api.KindHash { // the deepest tower itself
			holds(t, "as deep as may be", deep, api.OK)(p.Make(n))
			continue
		}
		u, why := p.Make(n)
		if why != api.OK || p.Depth(u) != 64 {
			t.Errorf("as deep as may be: error %d, depth %d", why, p.Depth(u))
		}
		long = p.Len()
	}
	holds(t, "too deep for no name", 0, api.ErrName)(p.Sign(-1, deep))
	holds(t, "too deep, with no term", 0, api.ErrTerm)(p.Pair(deep, 0))
	holds(t, "too deep, with a field too many", 0, api.ErrTree)(p.Make(api.Node{Kind: api.KindHash, A: deep, B: 1}))
}

// P5.3: 4096 nodes may be, and no more; what stands in a term twice counts twice.
func TestLargest(t *testing.T) {
	p := term.New()
	one, half := of(t, p, num(7)), of(t, p, broad(2047))
	whole := of(t, p, broad(4095))
	if p.Size(half) != 2047 || p.Size(whole) != 4095 || p.Depth(whole) > 20 {
		t.Fatalf("sizes %d and %d", p.Size(half), p.Size(whole))
	}
	holds(t, "two halves", whole, api.OK)(p.Pair(half, half))
	two, _ := p.Hash(one)
	odd, _ := p.Hash(half)
	for _, n := range []api.Node{
		{Kind: api.KindHash, A: whole}, {Kind: api.KindSign, From: 1, A: whole}, {Kind: api.KindProm, From: 1, A: whole}, {Kind: api.KindFake, From: 1, A: whole},
		{Kind: api.KindPair, A: half, B: odd}, {Kind: api.KindPair, A: odd, B: half},
	} {
		u, why := p.Make(n)
		if why != api.OK || p.Size(u) != 4096 {
			t.Errorf("as large as may be: error %d, size %d", why, p.Size(u))
		}
		long := p.Len()
		for _, m := range []api.Node{
			{Kind: api.KindHash, A: u}, {Kind: api.KindSign, From: 1, A: u}, {Kind: api.KindProm, From: 1, A: u}, {Kind: api.KindFake, From: 1, A: u},
			{Kind: api.KindPair, A: u, B: one}, {Kind: api.KindPair, A: one, B: u}, {Kind: api.KindPair, A: u, B: u},
			{Kind: api.KindPair, A: whole, B: one}, {Kind: api.KindPair, A: one, B: whole}, {Kind: api.KindPair, A: odd, B: odd}, {Kind: api.KindPair, A: two, B: whole},
		} {
			holds(t, "too large", 0, api.ErrLarge)(p.Make(m))
			if _, there := p.Has(m); there || p.Len() != long {
				t.Fatalf("%v was added", m)
			}
		}
	}
}

// P5.3: a pool has at most 65536 terms; what is there is still told, and every other error stands ahead.
func TestFull(t *testing.T) {
	p := filled(t, 66)
	deep := of(t, p, tower(64-1, data("x")))
	holds(t, "the last but one", api.MaxTerms-1, api.OK)(p.Name(0))
	holds(t, "the last", api.MaxTerms, api.OK)(p.Name(1))
	for range 2 {
		holds(t, "one more", 0, api.ErrMany)(p.Name(2))
		holds(t, "one more", 0, api.ErrMany)(p.Num(api.MaxTerms))
		holds(t, "one more", 0, api.ErrMany)(p.Pair(1, 2))
		holds(t, "one that is there", 1, api.OK)(p.Num(0))
		holds(t, "one that is there", api.MaxTerms, api.OK)(p.Name(1))
		holds(t, "one that is there", deep, api.OK)(p.Hash(deep - 1))
		holds(t, "no tree", 0, api.ErrTree)(p.Make(api.Node{}))
		holds(t, "no name", 0, api.ErrName)(p.Name(16))
		holds(t, "too long", 0, api.ErrLong)(p.Data(string(make([]byte, 65))))
		holds(t, "no term", 0, api.ErrTerm)(p.Hash(api.MaxTerms + 1))
		holds(t, "too deep", 0, api.ErrLarge)(p.Hash(deep))
	}
	if u, there := p.Has(api.Node{Kind: api.KindName, From: 2}); u != 0 || there || p.Len() != api.MaxTerms {
		t.Errorf("Has: %d, %t; %d terms", u, there, p.Len())
	}
}
