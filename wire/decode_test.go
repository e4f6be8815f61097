package wire_test

import (
	"testing"

	"escrow/api"
	"escrow/term"
	"escrow/wire"
)

// P7.2, P7.3: each kind's text.
func TestDecodeWritten(t *testing.T) {
	for text, x := range written() {
		takes(t, text, x)
	}
}

// P7.2: the term of p, made in the order of Subs; what is there already is not made again.
func TestDecodeIntoPool(t *testing.T) {
	p := term.New()
	key0 := of(t, p, key(0))
	a := of(t, p, data("a"))
	text := []byte("\x02\x05\x03\x01a\x01\x03\x04\x01\x02\x04\x00\x03") // (#5 ("a" n3))
	for range 2 {
		u, why, at := wire.Decode(p, text)
		if u != 6 || why != api.OK || at != 0 || p.Len() != 6 {
			t.Fatalf("%d, error %d at %d, %d terms", u, why, at, p.Len())
		}
	}
	for u, want := range []api.Node{
		{Kind: api.KindKey}, {Kind: api.KindData, Text: "a"}, {Kind: api.KindNum, Num: 5}, {Kind: api.KindName, From: 3}, {Kind: api.KindPair, A: a, B: 4}, {Kind: api.KindPair, A: 3, B: 5},
	} {
		if n, _ := p.Node(api.Term(u + 1)); n != want {
			t.Errorf("the term %d: %v instead of %v", u+1, n, want)
		}
	}
	if u, why, _ := wire.Decode(p, []byte("\x06\x00")); u != key0 || why != api.OK {
		t.Errorf("%d, error %d", u, why)
	}
}

// P7.2: ErrMany, if p has no room for what is new, and then it is as it was; Check hangs on no pool.
func TestDecodeFull(t *testing.T) {
	x := pair(sign(0, data("a")), prom(1, 0, pair(num(0), data("a")))) // five that are new
	text := []byte(textOf(x))
	for room := range 7 {
		p := filled(t, room)
		long := p.Len()
		u, why, at := wire.Decode(p, text)
		switch {
		case room >= 5 && (int(u) != long+5 || why != api.OK || at != 0 || p.Len() != long+5 || spell(p.Tree(u)) != spell(x)):
			t.Errorf("room %d: %d, error %d at %d", room, u, why, at)
		case room < 5 && (u != 0 || why != api.ErrMany || at != 0 || p.Len() != long):
			t.Errorf("room %d: %d, error %d at %d, %d terms", room, u, why, at, p.Len())
		}
		if u, there := p.Has(api.Node{Kind: api.KindData, Text: "a"}); there != (room >= 5) {
			t.Errorf("room %d: a part is there: %d", room, u)
		}
		if u, why, at := wire.Decode(p, []byte("\x02\x09")); u != 10 || why != api.OK || at != 0 {
			t.Errorf("room %d: one that is there: %d, error %d at %d", room, u, why, at)
		}
		if u, why, at := wire.Decode(p, []byte("\x02\x09\x0a")); u != 0 || why != api.ErrTag || at != 2 {
			t.Errorf("room %d: a wrong one: %d, error %d at %d", room, u, why, at)
		}
	}
	if why, at := wire.Check(text); why != api.OK || at != 0 {
		t.Errorf("Check: error %d at %d", why, at)
	}
}

// P7.4: a nil pool takes nothing, right or wrong.
func TestDecodeNil(t *testing.T) {
	for _, text := range []string{"", "\x01\x00", "\x0a", "\x01\x00\x01\x00", string(make([]byte, api.MaxWire+1))} {
		if u, why, at := wire.Decode(nil, []byte(text)); u != 0 || why != api.ErrArg || at != 0 {
			t.Errorf("%.20x: %d, error %d at %d", text, u, why, at)
		}
	}
	if u, why, at := wire.Decode(nil, nil); u != 0 || why != api.ErrArg || at != 0 {
		t.Errorf("of no bytes: %d, error %d at %d", u, why, at)
	}
}

// P7.2, rule 3: nil and an empty list are the same, here and in Check.
func TestDecodeNothing(t *testing.T) {
	for _, b := range [][]byte{nil, {}, []byte("\x01\x00")[:0]} {
		if u, why, at := wire.Decode(term.New(), b); u != 0 || why != api.ErrShort || at != 0 {
			t.Errorf("%d, error %d at %d", u, why, at)
		}
		if why, at := wire.Check(b); why != api.ErrShort || at != 0 {
			t.Errorf("Check: error %d at %d", why, at)
		}
	}
}

// P7.2: a text of MaxWire bytes is taken, a longer one not, whatever else is wrong with it.
func TestDecodeLong(t *testing.T) {
	for _, long := range []int{api.MaxWire - 1, api.MaxWire} {
		x := ofLength(t, long)
		takes(t, textOf(x), x)
	}
	for _, long := range []int{api.MaxWire + 1, api.MaxWire + 2, api.MaxWire + 70} {
		refuses(t, textOf(ofLength(t, long)), api.ErrLong, 0)
	}
	right := textOf(ofLength(t, api.MaxWire))
	refuses(t, right+"\x01", api.ErrLong, 0)
	refuses(t, "\x0a"+right, api.ErrLong, 0)
	refuses(t, string(make([]byte, api.MaxWire)), api.ErrTag, 0)
	refuses(t, string(make([]byte, api.MaxWire+1)), api.ErrLong, 0)
	refuses(t, string(make([]byte, 1<<20)), api.ErrLong, 0)
}

// Rule 3: the bytes that were handed in stay as they are, and are not kept.
func TestDecodeApart(t *testing.T) {
	text := "\x03\x02ab\x07\x01\x00"
	room := append([]byte(text), "spare"...)
	b := room[:len(text)]
	p := term.New()
	u, why, _ := wire.Decode(p, b)
	if string(room) != text+"spare" || why != api.OK {
		t.Fatalf("the bytes became %x, error %d", room, why)
	}
	if wire.Check(b); string(room) != text+"spare" {
		t.Fatalf("the bytes became %x", room)
	}
	clear(room)
	if spell(p.Tree(u)) != spell(sign(1, data("ab"))) {
		t.Errorf("the term became %s", spell(p.Tree(u)))
	}
}

// P7.2: the largest and the deepest terms.
func TestDecodeLargest(t *testing.T) {
	for _, x := range []api.Tree{
		tower(api.MaxDepth-1, name(1)), double(11), hash(double(11)), pair(double(10), hash(double(10))),
		broad(4095, 0, func(i int) api.Tree { return name(i % 2) }), sign(0, double(11)), prom(0, 1, double(11)),
	} {
		takes(t, textOf(x), x)
	}
}
