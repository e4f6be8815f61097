package wire_test

import (
	"math"
	"testing"

	"escrow/api"
	"escrow/term"
	"escrow/wire"
)

// P7.1, P7.4: each kind, its fields in their order, each subterm once, those of A ahead of those of B.
func TestEncodeWritten(t *testing.T) {
	all := term.New()
	for text, x := range written() {
		for _, p := range []*term.Pool{all, term.New()} {
			u := of(t, p, x)
			if got := encodes(t, p, u); got != text {
				t.Errorf("%s: %x instead of %x", spell(x), got, text)
			}
			if got := wire.Long(p, u); got != len(text) {
				t.Errorf("%s: %d bytes instead of %d", spell(x), got, len(text))
			}
		}
		if textOf(x) != text {
			t.Errorf("%s: the test's own text is %x", spell(x), textOf(x))
		}
	}
}

// P7.1, P7.4: each term of a pool, whatever else is in it and in which order, and nothing is changed by it.
func TestEncodeAny(t *testing.T) {
	d := dice(1)
	p := term.New()
	for range 1500 {
		of(t, p, anyTree(&d, 5))
	}
	long := p.Len()
	for u := api.Term(1); int(u) <= long; u++ {
		want := textOf(p.Tree(u))
		if got := encodes(t, p, u); got != want || wire.Long(p, u) != len(want) {
			t.Fatalf("%s: %x, %d bytes instead of %x", spell(p.Tree(u)), got, wire.Long(p, u), want)
		}
	}
	if p.Len() != long {
		t.Errorf("%d terms instead of %d", p.Len(), long)
	}
}

// P7.1: references of more bytes than one, and a text in a pool that has no more room.
func TestEncodeManySubterms(t *testing.T) {
	p := filled(t, 1000)
	x := broad(599, 0, func(i int) api.Tree { return name(i % 16) })
	y := broad(599, 0, func(i int) api.Tree { return num(uint64(i)) })
	for _, x := range []api.Tree{x, y, pair(y, x)} {
		u := of(t, p, x)
		if got := encodes(t, p, u); got != textOf(x) {
			t.Errorf("%.100x instead of %.100x", got, textOf(x))
		}
	}
	full := filled(t, 0)
	if got := encodes(t, full, 1000); got != "\x02\xe7\x07" {
		t.Errorf("%x", got)
	}
	if full.Len() != api.MaxTerms {
		t.Errorf("%d terms", full.Len())
	}
}

// P7.1, P7.4: what is no term has no text, in a nil pool nothing is one.
func TestEncodeNone(t *testing.T) {
	some := term.New()
	of(t, some, pair(data("a"), name(1)))
	for _, p := range []*term.Pool{some, term.New(), nil} {
		for _, u := range append(strange(p.Len()), 4, 99, math.MaxInt32) {
			b, why := wire.Encode(p, u)
			if len(b) != 0 || why != api.ErrTerm || wire.Long(p, u) != 0 {
				t.Errorf("%d of %d: %x, error %d, %d bytes", u, p.Len(), b, why, wire.Long(p, u))
			}
		}
	}
}

// P7.1, P7.4: a text of MaxWire bytes may be, a longer one not; Long tells of both.
func TestEncodeLong(t *testing.T) {
	for _, long := range []int{api.MaxWire - 1, api.MaxWire, api.MaxWire + 1, api.MaxWire + 2, api.MaxWire + 50} {
		p := term.New()
		x := ofLength(t, long)
		u := of(t, p, x)
		b, why := wire.Encode(p, u)
		if wire.Long(p, u) != long {
			t.Errorf("%d bytes instead of %d", wire.Long(p, u), long)
		}
		if long <= api.MaxWire && (why != api.OK || string(b) != textOf(x)) || long > api.MaxWire && (why != api.ErrLong || len(b) != 0) {
			t.Errorf("%d bytes: %d, error %d", long, len(b), why)
		}
	}
}

// P7.4: however many: the longest text of all.
func TestLongest(t *testing.T) {
	x := hash(broad(4095, 0, full))
	p := term.New()
	u := of(t, p, x)
	if got := wire.Long(p, u); got != len(textOf(x)) || got < 100000 {
		t.Errorf("%d bytes instead of %d", got, len(textOf(x)))
	}
	if b, why := wire.Encode(p, u); len(b) != 0 || why != api.ErrLong {
		t.Errorf("%d bytes, error %d", len(b), why)
	}
	p = term.New()
	if u = of(t, p, double(11)); p.Size(u) != 4095 || len(encodes(t, p, u)) != 2+11*3 {
		t.Errorf("size %d, %d bytes", p.Size(u), wire.Long(p, u))
	}
}

// Rule 3: each answer is in memory of its own, its spare room too.
func TestEncodeApart(t *testing.T) {
	p := term.New()
	u := of(t, p, pair(data("ab"), sign(1, data("c"))))
	want := encodes(t, p, u)
	first, _ := wire.Encode(p, u)
	second, _ := wire.Encode(p, u)
	first = first[:cap(first)]
	for i := range first {
		first[i] = 'x'
	}
	if string(second) != want || encodes(t, p, u) != want {
		t.Errorf("%x instead of %x", second, want)
	}
}
