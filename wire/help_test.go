package wire_test

import (
	"math"
	"strconv"
	"strings"
	"testing"

	"escrow/api"
	"escrow/term"
	"escrow/wire"
)

// dice is a row of numbers that looks like chance, the same each time.
type dice uint64

func (d *dice) upTo(n int) int {
	*d = *d*6364136223846793005 + 1442695040888963407
	return int(uint64(*d) >> 33 % uint64(n))
}

// Trees of each kind.
func name(n int) api.Tree    { return api.Tree{Kind: api.KindName, From: n} }
func num(n uint64) api.Tree  { return api.Tree{Kind: api.KindNum, Num: n} }
func data(s string) api.Tree { return api.Tree{Kind: api.KindData, Text: s} }
func key(n int) api.Tree     { return api.Tree{Kind: api.KindKey, From: n} }

func pair(a, b api.Tree) api.Tree {
	return api.Tree{Kind: api.KindPair, Kids: []api.Tree{a, b}}
}

func hash(a api.Tree) api.Tree {
	return api.Tree{Kind: api.KindHash, Kids: []api.Tree{a}}
}

func sign(n int, a api.Tree) api.Tree {
	return api.Tree{Kind: api.KindSign, From: n, Kids: []api.Tree{a}}
}

func prom(from, to int, a api.Tree) api.Tree {
	return api.Tree{Kind: api.KindProm, From: from, To: to, Kids: []api.Tree{a}}
}

func fake(from, to int, a api.Tree) api.Tree {
	return api.Tree{Kind: api.KindFake, From: from, To: to, Kids: []api.Tree{a}}
}

// spell writes a tree as a text of its own: two are the same just if their texts are.
func spell(x api.Tree) string {
	s := "(" + strconv.Itoa(x.Kind) + " " + strconv.Itoa(x.From) + " " + strconv.Itoa(x.To) + " " + strconv.FormatUint(x.Num, 10) + " " + strconv.Quote(x.Text)
	for _, kid := range x.Kids {
		s += spell(kid)
	}
	return s + ")"
}

// number is the bytes of a number: seven bits in each, the lowest first.
func number(n uint64) string {
	if n < 128 {
		return string([]byte{byte(n)})
	}
	return string([]byte{byte(n%128 + 128)}) + number(n/128)
}

// own is the byte of a tree's kind and its fields, with these numbers for its kids.
func own(x api.Tree, kids []uint64) string {
	s := string([]byte{byte(x.Kind)})
	switch x.Kind {
	case api.KindName, api.KindKey, api.KindSign:
		s += number(uint64(x.From))
	case api.KindNum:
		s += number(x.Num)
	case api.KindData:
		s += number(uint64(len(x.Text))) + x.Text
	case api.KindProm, api.KindFake:
		s += number(uint64(x.From)) + number(uint64(x.To))
	}
	for _, kid := range kids {
		s += number(kid)
	}
	return s
}

// textOf is the text that a right tree's term should have.
func textOf(x api.Tree) string {
	var text strings.Builder
	numbers := map[string]uint64{}
	var lay func(x api.Tree) uint64
	lay = func(x api.Tree) uint64 {
		var kids []uint64
		for _, kid := range x.Kids {
			kids = append(kids, lay(kid))
		}
		s := own(x, kids) // two with the same fields and kids are the same
		if _, again := numbers[s]; !again {
			text.WriteString(s)
			numbers[s] = uint64(len(numbers))
		}
		return numbers[s]
	}
	lay(x)
	return text.String()
}

// tower is one term inside so many others.
func tower(others int, x api.Tree) api.Tree {
	for range others {
		x = hash(x)
	}
	return x
}

// double is a term that is a pair of the same so many times over: of 2^(times+1) - 1 nodes, in two and times*3 bytes.
func double(times int) api.Tree {
	x := name(0)
	for range times {
		x = pair(x, x)
	}
	return x
}

// broad is a tree of an odd number of nodes, as low as pairs allow, whose leaves are unlike.
func broad(nodes, first int, leaf func(i int) api.Tree) api.Tree {
	if nodes == 1 {
		return leaf(first)
	}
	left := (nodes - 1) / 2
	if left%2 == 0 {
		left--
	}
	return pair(broad(left, first, leaf), broad(nodes-1-left, first+(left+1)/2, leaf))
}

// full is a datum of MaxData bytes, unlike that of another number.
func full(i int) api.Tree {
	return data(strings.Repeat("x", api.MaxData-4) + strconv.Itoa(1000 + i)[:4])
}

// ofLength is a tree whose text has just so many bytes, at least 200.
func ofLength(t *testing.T, long int) api.Tree {
	t.Helper()
	x := full(0)
	for i := 1; len(textOf(x))+140 < long; i++ {
		x = pair(x, full(i))
	}
	for n := range api.MaxData + 1 {
		for m := range api.MaxData + 1 {
			if y := pair(pair(x, data(strings.Repeat("y", n))), data(strings.Repeat("z", m))); len(textOf(y)) == long {
				return y
			}
		}
	}
	t.Fatalf("no text of %d bytes", long)
	return x
}

func anyTree(d *dice, deep int) api.Tree {
	kinds := 9
	if deep == 0 {
		kinds = 4
	}
	from := d.upTo(api.MaxNames)
	to := (from + 1 + d.upTo(api.MaxNames-1)) % api.MaxNames
	switch d.upTo(kinds) {
	case 0:
		return name(d.upTo(3))
	case 1:
		return num([]uint64{0, 127, 128, 1 << 63, math.MaxUint64}[d.upTo(5)])
	case 2:
		s := make([]byte, d.upTo(3))
		for i := range s {
			s[i] = byte(d.upTo(256))
		}
		return data(string(s))
	case 3:
		return key(from)
	case 4:
		return hash(anyTree(d, deep-1))
	case 5:
		return sign(from, anyTree(d, deep-1))
	case 6:
		return prom(from, to, anyTree(d, deep-1))
	case 7:
		return fake(from, to, anyTree(d, deep-1))
	}
	return pair(anyTree(d, deep-1), anyTree(d, deep-1))
}

// written are right trees and their texts, put down by hand.
func written() map[string]api.Tree {
	a, n := data("a"), name(3)
	return map[string]api.Tree{
		"\x01\x00": name(0), "\x01\x0f": name(15), "\x06\x00": key(0), "\x06\x0f": key(15),
		"\x02\x00": num(0), "\x02\x7f": num(127), "\x02\x80\x01": num(128), "\x02\xac\x02": num(300), "\x02\x80\x80\x80\x80\x80\x80\x80\x80\x80\x01": num(1 << 63), "\x02\xff\xff\xff\xff\xff\xff\xff\xff\xff\x01": num(math.MaxUint64),
		"\x03\x00": data(""), "\x03\x01a": a, "\x03\x02\x00\xff": data("\x00\xff"), "\x03\x02ab": data("ab"), "\x03\x40" + strings.Repeat("\x80", 64): data(strings.Repeat("\x80", 64)),
		"\x01\x03\x05\x00":                                                     hash(n),
		"\x03\x01a\x07\x01\x00":                                                sign(1, a),
		"\x03\x01a\x07\x00\x00":                                                sign(0, a),
		"\x03\x01a\x08\x00\x01\x00":                                            prom(0, 1, a),
		"\x03\x01a\x08\x0f\x0e\x00":                                            prom(15, 14, a),
		"\x03\x01a\x09\x01\x00\x00":                                            fake(1, 0, a),
		"\x01\x00\x04\x00\x00":                                                 pair(name(0), name(0)),
		"\x01\x03\x03\x01a\x04\x00\x01":                                        pair(n, a),
		"\x03\x01a\x01\x03\x04\x00\x01":                                        pair(a, n),
		"\x01\x03\x05\x00\x04\x01\x00":                                         pair(hash(n), n),
		"\x01\x03\x05\x00\x04\x00\x01":                                         pair(n, hash(n)),
		"\x01\x03\x05\x00\x05\x01\x05\x02":                                     hash(hash(hash(n))),
		"\x01\x03\x03\x01a\x04\x00\x01\x04\x02\x00":                            pair(pair(n, a), n),
		"\x01\x03\x03\x01a\x04\x01\x00\x04\x00\x02":                            pair(n, pair(a, n)),
		"\x01\x00\x04\x00\x00\x04\x01\x01":                                     double(2),
		"\x01\x01\x06\x01\x02\x01\x04\x01\x02\x04\x00\x03":                     pair(name(1), pair(key(1), num(1))),
		"\x03\x04deal\x02\x07\x04\x00\x01\x07\x00\x02\x08\x00\x01\x03":         prom(0, 1, sign(0, pair(data("deal"), num(7)))),
		"\x01\x03\x08\x00\x01\x00\x09\x00\x01\x00\x04\x01\x02\x07\x0f\x03":     sign(15, pair(prom(0, 1, n), fake(0, 1, n))),
		"\x02\x00\x01\x00\x03\x00\x06\x00\x04\x02\x03\x04\x01\x04\x04\x00\x05": pair(num(0), pair(name(0), pair(data(""), key(0)))),
	}
}

// strange are numbers that are no term of a pool of so many.
func strange(long int) []api.Term {
	return []api.Term{0, -1, -2, api.Term(long) + 1, api.Term(long) + 2, math.MinInt, math.MinInt + 1, math.MaxInt - 1, math.MaxInt}
}

// of is the term of a right tree.
func of(t *testing.T, p *term.Pool, x api.Tree) api.Term {
	t.Helper()
	u, why := p.Of(x)
	if u == 0 || why != api.OK {
		t.Fatalf("Of a tree of kind %d: %d, error %d", x.Kind, u, why)
	}
	return u
}

// filled is a pool of numbers, with room for so many more.
func filled(t *testing.T, room int) *term.Pool {
	t.Helper()
	p := term.New()
	for i := range api.MaxTerms - room {
		if _, why := p.Num(uint64(i)); why != api.OK {
			t.Fatalf("the term %d: error %d", i+1, why)
		}
	}
	return p
}

// encodes is the text of a term that has one.
func encodes(t *testing.T, p *term.Pool, u api.Term) string {
	t.Helper()
	b, why := wire.Encode(p, u)
	if why != api.OK {
		t.Fatalf("the term %d: error %d", u, why)
	}
	return string(b)
}

// takes fails if a text is not that of a tree.
func takes(t *testing.T, text string, x api.Tree) {
	t.Helper()
	p := term.New()
	u, why, at := wire.Decode(p, []byte(text))
	if why != api.OK || at != 0 || spell(p.Tree(u)) != spell(x) {
		t.Fatalf("%.100x: %.200s, error %d at %d instead of %.200s", text, spell(p.Tree(u)), why, at, spell(x))
	}
	if why, at := wire.Check([]byte(text)); why != api.OK || at != 0 {
		t.Fatalf("%.100x: Check tells %d at %d", text, why, at)
	}
}

// refuses fails if a text is not refused so, or a pool into which it was to come is changed.
func refuses(t *testing.T, text string, want api.Errno, place int) {
	t.Helper()
	p := term.New()
	of(t, p, pair(data("kept"), name(7)))
	u, why, at := wire.Decode(p, []byte(text))
	if u != 0 || why != want || at != place {
		t.Fatalf("%.100x: %d, error %d at %d instead of error %d at %d", text, u, why, at, want, place)
	}
	if p.Len() != 3 || spell(p.Tree(3)) != spell(pair(data("kept"), name(7))) {
		t.Fatalf("%.100x: the pool has %d terms", text, p.Len())
	}
	if why, at := wire.Check([]byte(text)); why != want || at != place {
		t.Fatalf("%.100x: Check tells %d at %d instead of %d at %d", text, why, at, want, place)
	}
}
