package wire_test

import (
	"slices"
	"strings"
	"testing"

	"escrow/api"
	"escrow/term"
	"escrow/wire"
)

// P7.5: Decode of Encode is the term, in its own pool and as a tree in another one.
func TestThereAndBack(t *testing.T) {
	d := dice(2)
	p, q := term.New(), term.New()
	for range 2000 {
		of(t, p, anyTree(&d, 5))
	}
	long := p.Len()
	for u := api.Term(1); int(u) <= long; u++ {
		text := encodes(t, p, u)
		if v, why, at := wire.Decode(p, []byte(text)); v != u || why != api.OK || at != 0 {
			t.Fatalf("the term %d: %d, error %d at %d", u, v, why, at)
		}
		v, why, _ := wire.Decode(q, []byte(text))
		if why != api.OK || spell(q.Tree(v)) != spell(p.Tree(u)) || encodes(t, q, v) != text {
			t.Fatalf("the term %d: error %d, %s instead of %s", u, why, spell(q.Tree(v)), spell(p.Tree(u)))
		}
	}
	if p.Len() != long {
		t.Errorf("%d terms instead of %d", p.Len(), long)
	}
}

// fits fails if Decode does not tell of a text what the test's own judge does, or takes what Encode does not lay.
func fits(t *testing.T, text string) bool {
	t.Helper()
	want, place := judge(text)
	p := term.New()
	u, why, at := wire.Decode(p, []byte(text))
	if why != want || at != place || (u != 0) != (why == api.OK) {
		t.Fatalf("%x: %d, error %d at %d instead of error %d at %d", text, u, why, at, want, place)
	}
	if why != api.OK {
		if p.Len() != 0 {
			t.Fatalf("%x: %d terms", text, p.Len())
		}
		return false
	}
	if encodes(t, p, u) != text || p.Len() != int(u) {
		t.Fatalf("%x: Encode lays %x, %d terms", text, encodes(t, p, u), p.Len())
	}
	return true
}

// P7.2, P7.5: all texts of up to five (of few kinds of byte: six) bytes: an error has its place, and what is taken is what Encode lays.
func TestAllShortTexts(t *testing.T) {
	for _, alphabet := range []string{"\x00\x01\x02\x03\x04\x05\x80\x0a", "\x00\x01\x05\x06\x07\x08\x09\x10", "\x01\x04\x00\x02"} {
		level, taken := []string{""}, 0
		for long := range 7 {
			var next []string
			for _, text := range level {
				if fits(t, text) {
					taken++
				}
				for i := range len(alphabet) {
					next = append(next, text+alphabet[i:i+1])
				}
			}
			if level = next; long == 5 && len(alphabet) > 4 {
				break
			}
		}
		if taken < 5 {
			t.Errorf("of %x only %d were taken", alphabet, taken)
		}
	}
}

// changed is the text with one byte put in, taken out, or in another's place, or with a piece of it there twice.
func changed(d *dice, text string) string {
	at := d.upTo(len(text))
	c := string([]byte{byte(d.upTo(256))})
	if d.upTo(3) > 0 {
		c = string([]byte{byte(d.upTo(17))})
	}
	switch d.upTo(5) {
	case 0:
		return text[:at] + c + text[at:]
	case 1:
		return text[:at] + text[at+1:]
	case 2:
		return text[:at] + text[at/2:]
	case 3:
		return text[:at] + "\x80" + text[at:]
	}
	return text[:at] + c + text[at+1:]
}

// P7.2, P7.5: of texts that are nearly right.
func TestChanged(t *testing.T) {
	d := dice(3)
	told := map[api.Errno]int{}
	for range 30000 {
		text := textOf(anyTree(&d, 4))
		for range 1 + d.upTo(3) {
			if text != "" {
				text = changed(&d, text)
			}
		}
		fits(t, text)
		why, _ := judge(text)
		told[why]++
	}
	for _, why := range []api.Errno{api.OK, api.ErrTag, api.ErrShort, api.ErrForm, api.ErrLong, api.ErrName, api.ErrRef, api.ErrTwice, api.ErrOrder} {
		if told[why] < 20 {
			t.Errorf("error %d was told %d times", why, told[why])
		}
	}
}

// P7.5: subterms in whatever other order, and with another one among them, are refused.
func TestOneOrder(t *testing.T) {
	d := dice(4)
	refused := 0
	for range 3000 {
		var l []api.Node // as in a pool: A and B are numbers from 1 on
		for i := range 2 + d.upTo(5) {
			n := api.Node{Kind: api.KindNum, Num: uint64(i)}
			if i > 0 && d.upTo(3) > 0 {
				n = api.Node{Kind: api.KindPair, A: api.Term(1 + d.upTo(i)), B: api.Term(1 + d.upTo(i))}
			}
			l = append(l, n)
		}
		text := ""
		for _, n := range l {
			if n.Kind == api.KindNum {
				text += "\x02" + number(n.Num)
			} else {
				text += "\x04" + number(uint64(n.A-1)) + number(uint64(n.B-1))
			}
		}
		if !fits(t, text) {
			refused++
		}
	}
	if refused < 500 || refused > 2900 {
		t.Errorf("%d were refused", refused)
	}
}

// P7.6: a text that begins another one is that of a term that stands in the other.
func TestApart(t *testing.T) {
	d := dice(5)
	p := term.New()
	for _, x := range written() {
		of(t, p, x)
	}
	for range 400 {
		of(t, p, anyTree(&d, 4))
	}
	texts := make([]string, p.Len())
	for i := range texts {
		texts[i] = encodes(t, p, api.Term(i+1))
	}
	begins := 0
	for i, a := range texts {
		for j, b := range texts {
			if i == j || !strings.HasPrefix(b, a) {
				continue
			}
			begins++
			if len(a) == len(b) || !slices.Contains(slices.Collect(p.Subs(api.Term(j+1))), api.Term(i+1)) {
				t.Fatalf("%x begins %x", a, b)
			}
		}
	}
	if begins < 100 {
		t.Errorf("only %d texts begin others", begins)
	}
}
