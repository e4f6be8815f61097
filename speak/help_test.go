package speak_test

import (
	"fmt"
	"math"
	"strings"
	"testing"

	"escrow/api"
	"escrow/speak"
	"escrow/term"
)

// dice is a row of numbers that looks like chance, the same each time.
type dice uint64

func (d *dice) upTo(n int) int {
	*d = *d*6364136223846793005 + 1442695040888963407
	return int(uint64(*d) >> 33 % uint64(n))
}

// Trees of each kind.
func name(n int) api.Tree    { return api.Tree{Kind: api.KindName, From: n} }
func num(n uint64) api.Tree  { return api.Tree{Kind: api.KindNum, Num: n} }
func data(s string) api.Tree { return api.Tree{Kind: api.KindData, Text: s} }
func key(n int) api.Tree     { return api.Tree{Kind: api.KindKey, From: n} }

func pair(a, b api.Tree) api.Tree {
	return api.Tree{Kind: api.KindPair, Kids: []api.Tree{a, b}}
}

func hash(a api.Tree) api.Tree {
	return api.Tree{Kind: api.KindHash, Kids: []api.Tree{a}}
}

func sign(n int, a api.Tree) api.Tree {
	return api.Tree{Kind: api.KindSign, From: n, Kids: []api.Tree{a}}
}

func prom(from, to int, a api.Tree) api.Tree {
	return api.Tree{Kind: api.KindProm, From: from, To: to, Kids: []api.Tree{a}}
}

func fake(from, to int, a api.Tree) api.Tree {
	return api.Tree{Kind: api.KindFake, From: from, To: to, Kids: []api.Tree{a}}
}

// same is whether two trees are the same; nil and an empty list of kids are.
func same(x, y api.Tree) bool {
	if x.Kind != y.Kind || x.From != y.From || x.To != y.To || x.Num != y.Num || x.Text != y.Text || len(x.Kids) != len(y.Kids) {
		return false
	}
	for i := range x.Kids {
		if !same(x.Kids[i], y.Kids[i]) {
			return false
		}
	}
	return true
}

func nodesOf(x api.Tree) int {
	n := 1
	for _, kid := range x.Kids {
		n += nodesOf(kid)
	}
	return n
}

// textOf is the text that a right tree should have.
func textOf(x api.Tree) string {
	var kids []any
	for _, kid := range x.Kids {
		kids = append(kids, textOf(kid))
	}
	switch x.Kind {
	case api.KindName:
		return fmt.Sprintf("n%d", x.From)
	case api.KindNum:
		return fmt.Sprintf("#%d", x.Num)
	case api.KindKey:
		return fmt.Sprintf("k%d", x.From)
	case api.KindPair:
		return fmt.Sprintf("(%s %s)", kids...)
	case api.KindHash:
		return fmt.Sprintf("h(%s)", kids...)
	case api.KindSign:
		return fmt.Sprintf("s%d(%s)", x.From, kids[0])
	case api.KindProm:
		return fmt.Sprintf("p%d>%d(%s)", x.From, x.To, kids[0])
	case api.KindFake:
		return fmt.Sprintf("f%d>%d(%s)", x.From, x.To, kids[0])
	}
	s := `"`
	for i := range len(x.Text) {
		switch c := x.Text[i]; {
		case c < 32 || c > 126:
			s += fmt.Sprintf(`\x%02x`, c)
		case strings.ContainsRune(`"\`, rune(c)):
			s += `\` + string(c)
		default:
			s += string(c)
		}
	}
	return s + `"`
}

// told is textOf of what Read told, which may be the zero tree.
func told(x api.Tree) string {
	if same(x, api.Tree{}) {
		return "none"
	}
	return textOf(x)
}

// anyText is one of the texts that are read as a right tree: with blanks here and there, and bytes written otherwise than they need be.
func anyText(d *dice, x api.Tree) string {
	s := textOf(x)
	if x.Kind == api.KindData {
		s = `"`
		for i := range len(x.Text) {
			own := textOf(data(x.Text[i : i+1]))
			s += []string{own[1 : len(own)-1], fmt.Sprintf(`\x%02x`, x.Text[i]), fmt.Sprintf(`\x%02X`, x.Text[i])}[d.upTo(3)]
		}
		s += `"`
	}
	if len(x.Kids) > 0 {
		s = s[:strings.IndexByte(s, '(')+1]
		for _, kid := range x.Kids {
			s += anyText(d, kid)
		}
		s += ")"
	}
	return blanks(d.upTo(3)) + s + blanks(d.upTo(3))
}

func blanks(n int) string {
	return strings.Repeat(" ", n)
}

// tower is one term inside so many others.
func tower(others int, x api.Tree) api.Tree {
	for range others {
		x = hash(x)
	}
	return x
}

// broad is a tree of an odd number of nodes, as low as pairs allow, with this one in all places of leaves.
func broad(nodes int, leaf api.Tree) api.Tree {
	if nodes == 1 {
		return leaf
	}
	left := (nodes - 1) / 2
	if left%2 == 0 {
		left--
	}
	return pair(broad(left, leaf), broad(nodes-1-left, leaf))
}

func anyTree(d *dice, deep int) api.Tree {
	kinds := 9
	if deep == 0 {
		kinds = 4
	}
	from := d.upTo(api.MaxNames)
	to := (from + 1 + d.upTo(api.MaxNames-1)) % api.MaxNames
	switch d.upTo(kinds) {
	case 0:
		return name(from)
	case 1:
		return num([]uint64{0, 9, 10, 1 << 63, math.MaxUint64}[d.upTo(5)])
	case 2:
		s := make([]byte, d.upTo(5))
		for i := range s {
			s[i] = byte(d.upTo(256))
		}
		return data(string(s))
	case 3:
		return key(from)
	case 4:
		return hash(anyTree(d, deep-1))
	case 5:
		return sign(from, anyTree(d, deep-1))
	case 6:
		return prom(from, to, anyTree(d, deep-1))
	case 7:
		return fake(from, to, anyTree(d, deep-1))
	}
	return pair(anyTree(d, deep-1), anyTree(d, deep-1))
}

// written are right trees and their texts, put down by hand.
func written() map[string]api.Tree {
	a, n := data("a"), name(3)
	return map[string]api.Tree{
		`n0`: name(0), `n9`: name(9), `n10`: name(10), `n15`: name(15),
		`#0`: num(0), `#7`: num(7), `#10`: num(10), `#100`: num(100), `#9223372036854775808`: num(1 << 63), `#18446744073709551615`: num(math.MaxUint64),
		`k0`: key(0), `k15`: key(15),
		`""`: data(""), `"a"`: a, `" "`: data(" "), `"~"`: data("~"), `"n0"`: data("n0"), `"(a) #1 > h"`: data("(a) #1 > h"),
		`"\""`: data(`"`), `"\\"`: data(`\`), `"\\x0a"`: data(`\x0a`), `"'/"`: data("'/"),
		`"\x00"`: data("\x00"), `"\x0a"`: data("\n"), `"\x1f"`: data("\x1f"), `"\x7f"`: data("\x7f"), `"\x80"`: data("\x80"), `"\xff"`: data("\xff"), `"\xc3\xa9"`: data("é"), `"\xab\xcd\xef"`: data("\xab\xcd\xef"),
		`(n3 "a")`: pair(n, a), `("a" n3)`: pair(a, n), `((n3 n3) "a")`: pair(pair(n, n), a), `(n3 (n3 "a"))`: pair(n, pair(n, a)),
		`h("a")`: hash(a), `h(h(n3))`: hash(hash(n)), `h(("a" n3))`: hash(pair(a, n)),
		`s0("a")`: sign(0, a), `s15(n3)`: sign(15, n), `s0(("deal" #7))`: sign(0, pair(data("deal"), num(7))),
		`p0>1("a")`: prom(0, 1, a), `p15>14(n3)`: prom(15, 14, n), `p1>0(p0>1(n3))`: prom(1, 0, prom(0, 1, n)),
		`f0>1("a")`: fake(0, 1, a), `f14>15(n3)`: fake(14, 15, n), `f2>12((k0 s1(n3)))`: fake(2, 12, pair(key(0), sign(1, n))),
	}
}

// reads fails if the text is not read as the tree.
func reads(t *testing.T, text string, want api.Tree) {
	t.Helper()
	x, why, at := speak.Read(text)
	if !same(x, want) || why != api.OK || at != 0 {
		t.Errorf("%.300q: %.300s, error %d at %d", text, told(x), why, at)
	}
}

// refuses fails if the text is read, or refused otherwise.
func refuses(t *testing.T, text string, why api.Errno, at int) {
	t.Helper()
	x, gotWhy, gotAt := speak.Read(text)
	if !same(x, api.Tree{}) || gotWhy != why || gotAt != at {
		t.Errorf("%.300q: %.300s, error %d at %d instead of %d at %d", text, told(x), gotWhy, gotAt, why, at)
	}
}

// of is the term of a right tree.
func of(t *testing.T, p *term.Pool, x api.Tree) api.Term {
	t.Helper()
	u, why := p.Of(x)
	if u == 0 || why != api.OK {
		t.Fatalf("Of a tree of kind %d: %d, error %d", x.Kind, u, why)
	}
	return u
}

// filled is a pool of numbers, with room for so many more.
func filled(t *testing.T, room int) *term.Pool {
	t.Helper()
	p := term.New()
	for i := range api.MaxTerms - room {
		of(t, p, num(uint64(i)))
	}
	return p
}
