package letter_test

import (
	"bytes"
	"slices"
	"strings"
	"testing"

	"escrow/api"
	"escrow/letter"
	"escrow/term"
	"escrow/wire"
)

// P11.6: bytes put down by hand.
func TestEncodeByHand(t *testing.T) {
	for _, x := range []struct {
		l     api.Letter
		bytes string
	}{
		{api.Letter{Kind: api.LetterFull, C: 7}, "\x03\x04full\x02\x07\x04\x00\x01"},
		{api.Letter{Kind: api.LetterAbort, C: 1}, "\x03\x05abort\x02\x01\x04\x00\x01\x07\x00\x02"},
		{api.Letter{Kind: api.LetterToken}, "\x03\x07aborted\x02\x00\x04\x00\x01\x07\x02\x02"},
		{api.Letter{Kind: api.LetterSign, From: 1, C: 7, Text: "x"}, "\x03\x04deal\x02\x07\x03\x01x\x04\x01\x02\x04\x00\x03\x07\x01\x04"},
		{api.Letter{Kind: api.LetterPromise, From: 1, C: 7, Text: "x", Fake: true}, "\x03\x04deal\x02\x07\x03\x01x\x04\x01\x02\x04\x00\x03\x09\x01\x00\x04"},
	} {
		if b, why := letter.Encode(x.l); string(b) != x.bytes || why != api.OK {
			t.Errorf("%s: %x, error %d instead of %x", tell(x.l), b, why, x.bytes)
		}
		isLetter(t, x.bytes, x.l)(letter.Decode([]byte(x.bytes)))
	}
}

// laid are the bytes of a term's text.
func laid(t *testing.T, text string) []byte {
	t.Helper()
	p := term.New()
	b, why := wire.Encode(p, of(t, p, text))
	if why != api.OK {
		t.Fatalf("%s: error %d", text, why)
	}
	return b
}

// P11.6: wire's text of the term, and the letter of it, of all letters of many numbers and texts.
func TestEncode(t *testing.T) {
	for _, l := range letters(numbers(), texts()) {
		want := laid(t, spellings(l)[0])
		b, why := letter.Encode(l)
		if !bytes.Equal(b, want) || why != api.OK {
			t.Errorf("%s: %x, error %d instead of %x", tell(l), b, why, want)
		}
		isLetter(t, tell(l), l)(letter.Decode(want))
	}
}

// P11.6: Check's error, and no bytes.
func TestEncodeWrong(t *testing.T) {
	for _, x := range wrongs() {
		if b, why := letter.Encode(x.l); len(b) != 0 || why != x.why {
			t.Errorf("%s: %x, error %d instead of %d", tell(x.l), b, why, x.why)
		}
	}
}

// P11.6: what wire refuses, and what is no letter's term.
func TestDecodeNone(t *testing.T) {
	for _, b := range [][]byte{nil, {}, {0}, {1}, {1, 0}, {2, 7}, bytes.Repeat([]byte{1}, 5000), {1, 0, 1, 0}} {
		isNone(t, string(b))(letter.Decode(b))
	}
	for _, text := range []string{`#7`, `"full"`, deal7, `s2(` + deal7 + `)`, `s1(("abort" #7))`, `("abort" #7)`, `h(s0(` + deal7 + `))`, `p0>2(` + deal7 + `)`, `s2(("full" #7))`} {
		isNone(t, text)(letter.Decode(laid(t, text)))
	}
	for _, x := range samples() {
		b := laid(t, x.term)
		for i := range b {
			isNone(t, "cut "+x.term)(letter.Decode(b[:i]))
		}
		for c := range 256 {
			isNone(t, "more than "+x.term)(letter.Decode(append(slices.Clone(b), byte(c))))
		}
		isNone(t, "twice "+x.term)(letter.Decode(append(slices.Clone(b), b...)))
	}
}

// P11.6: a wish to resolve with one fake, or with two.
func TestDecodeFakes(t *testing.T) {
	l := api.Letter{Kind: api.LetterResolve, From: 1, C: 7, Text: "x", Fake: true}
	for _, text := range spellings(l) {
		isLetter(t, text, l)(letter.Decode(laid(t, text)))
	}
}

// P11.6, P11.9: of bytes that are unlike a letter's in one byte: what the term is by wire and the judge; and without Fake they are what Encode lays.
func TestDecodeNear(t *testing.T) {
	taken := 0
	for _, x := range oneEach() {
		b, _ := letter.Encode(x.l)
		for i := range b {
			for c := range 256 {
				if c > 20 && c%4 != i%4 && c != 'x' && c < 255 {
					continue
				}
				near := slices.Clone(b)
				near[i] = byte(c)
				l, ok := letter.Decode(near)
				p := term.New()
				u, _, _ := wire.Decode(p, near)
				want, is := judge(p.Tree(u))
				if l != want || ok != is {
					t.Errorf("%x: %s, %t instead of %s, %t", near, tell(l), ok, tell(want), is)
				}
				if again, _ := letter.Encode(l); ok && !l.Fake && !bytes.Equal(again, near) {
					t.Errorf("%x: Encode lays %x", near, again)
				}
				if ok {
					taken++
				}
			}
		}
	}
	if taken < 300 {
		t.Errorf("only %d were letters", taken)
	}
}

// P11.6: what is handed in is not changed, its spare room neither, and what is answered is new each time.
func TestBytesApart(t *testing.T) {
	for _, x := range samples() {
		b, _ := letter.Encode(x.l)
		room := append(slices.Clone(b), 1, 2, 3)
		was := slices.Clone(room)
		l, _ := letter.Decode(room[:len(b)])
		if !bytes.Equal(room, was) {
			t.Errorf("%s: Decode changes %x to %x", x.line, was, room)
		}
		clear(room)
		if l != x.l {
			t.Errorf("%s: a letter changes with the bytes that it was read from: %s", x.line, tell(l))
		}
		again, _ := letter.Encode(x.l)
		clear(again[:cap(again)])
		if third, _ := letter.Encode(x.l); !bytes.Equal(b, third) || !bytes.Equal(b, was[:len(b)]) {
			t.Errorf("%s: %x, then %x", x.line, was[:len(b)], third)
		}
	}
}

// P11.6: the longest letters have room in bytes.
func TestEncodeLongest(t *testing.T) {
	for _, kind := range []int{1, 2, 4, 6} {
		l := api.Letter{Kind: kind, C: 1<<64 - 1, Text: strings.Repeat("\xff", api.MaxData)}
		b, why := letter.Encode(l)
		if why != api.OK {
			t.Errorf("%s: error %d", tell(l), why)
		}
		isLetter(t, tell(l), l)(letter.Decode(b))
	}
}
