package term_test

import (
	"math"
	"slices"
	"strconv"
	"testing"

	"escrow/api"
	"escrow/term"
)

// dice is a row of numbers that looks like chance, the same each time.
type dice uint64

func (d *dice) upTo(n int) int {
	*d = *d*6364136223846793005 + 1442695040888963407
	return int(uint64(*d) >> 33 % uint64(n))
}

// strange are numbers that are no term of a pool of so many.
func strange(long int) []api.Term {
	return []api.Term{0, -1, -2, api.Term(long) + 1, api.Term(long) + 2, math.MinInt, math.MinInt + 1, math.MaxInt - 1, math.MaxInt}
}

// wrongNames are numbers that are no names.
func wrongNames() []int {
	return []int{-1, -2, api.MaxNames, api.MaxNames + 1, math.MinInt, math.MaxInt}
}

// Trees of each kind.
func name(n int) api.Tree    { return api.Tree{Kind: api.KindName, From: n} }
func num(n uint64) api.Tree  { return api.Tree{Kind: api.KindNum, Num: n} }
func data(s string) api.Tree { return api.Tree{Kind: api.KindData, Text: s} }
func key(n int) api.Tree     { return api.Tree{Kind: api.KindKey, From: n} }

func pair(a, b api.Tree) api.Tree {
	return api.Tree{Kind: api.KindPair, Kids: []api.Tree{a, b}}
}

func hash(a api.Tree) api.Tree {
	return api.Tree{Kind: api.KindHash, Kids: []api.Tree{a}}
}

func sign(n int, a api.Tree) api.Tree {
	return api.Tree{Kind: api.KindSign, From: n, Kids: []api.Tree{a}}
}

func prom(from, to int, a api.Tree) api.Tree {
	return api.Tree{Kind: api.KindProm, From: from, To: to, Kids: []api.Tree{a}}
}

func fake(from, to int, a api.Tree) api.Tree {
	return api.Tree{Kind: api.KindFake, From: from, To: to, Kids: []api.Tree{a}}
}

// spell writes a tree as a text of its own: two are the same just if their texts are.
func spell(x api.Tree) string {
	s := "(" + strconv.Itoa(x.Kind) + " " + strconv.Itoa(x.From) + " " + strconv.Itoa(x.To) + " " + strconv.FormatUint(x.Num, 10) + " " + strconv.Quote(x.Text)
	for _, kid := range x.Kids {
		s += spell(kid)
	}
	return s + ")"
}

func sizeOf(x api.Tree) int {
	n := 1
	for _, kid := range x.Kids {
		n += sizeOf(kid)
	}
	return n
}

func depthOf(x api.Tree) int {
	n := 0
	for _, kid := range x.Kids {
		n = max(n, depthOf(kid))
	}
	return n + 1
}

// plain is a pool as a list of trees: what a term.Pool is held against.
type plain []api.Tree

// number is 0, if the tree is not there.
func (p plain) number(x api.Tree) api.Term {
	s := spell(x)
	return api.Term(slices.IndexFunc(p, func(y api.Tree) bool { return spell(y) == s }) + 1)
}

// lay adds the subterms of a right tree that are not there, from the front, and tells the tree's number.
func (p *plain) lay(x api.Tree) api.Term {
	for _, kid := range x.Kids {
		p.lay(kid)
	}
	if p.number(x) == 0 {
		*p = append(*p, x)
	}
	return p.number(x)
}

// node is how a tree whose kids are there is made.
func (p plain) node(x api.Tree) api.Node {
	n := api.Node{Kind: x.Kind, From: x.From, To: x.To, Num: x.Num, Text: x.Text}
	if len(x.Kids) > 0 {
		n.A = p.number(x.Kids[0])
	}
	if len(x.Kids) > 1 {
		n.B = p.number(x.Kids[1])
	}
	return n
}

// subs are the numbers that Subs should go over.
func (p plain) subs(x api.Tree) []api.Term {
	var l []api.Term
	for _, kid := range x.Kids {
		for _, t := range p.subs(kid) {
			if !slices.Contains(l, t) {
				l = append(l, t)
			}
		}
	}
	return append(l, p.number(x))
}

// tells fails if the pool does not tell just these terms.
func tells(t *testing.T, p *term.Pool, l plain) {
	t.Helper()
	if p.Len() != len(l) {
		t.Fatalf("%d terms instead of %d", p.Len(), len(l))
	}
	for i, x := range l {
		u, want := api.Term(i+1), l.node(x)
		if n, ok := p.Node(u); n != want || !ok {
			t.Fatalf("Node(%d): %v, %t instead of %v", u, n, ok, want)
		}
		if v, ok := p.Has(want); v != u || !ok {
			t.Fatalf("Has of the term %d: %d, %t", u, v, ok)
		}
		if p.Size(u) != sizeOf(x) || p.Depth(u) != depthOf(x) {
			t.Fatalf("%s: size %d, depth %d", spell(x), p.Size(u), p.Depth(u))
		}
		if y := p.Tree(u); spell(y) != spell(x) {
			t.Fatalf("Tree(%d): %s instead of %s", u, spell(y), spell(x))
		}
		if got := slices.Collect(p.Subs(u)); !slices.Equal(got, l.subs(x)) {
			t.Fatalf("Subs of %s: %v instead of %v", spell(x), got, l.subs(x))
		}
	}
	for _, u := range strange(len(l)) {
		noTerm(t, p, u)
	}
}

// noTerm fails if the pool tells something of a number that it should not have.
func noTerm(t *testing.T, p *term.Pool, u api.Term) {
	t.Helper()
	if n, ok := p.Node(u); n != (api.Node{}) || ok {
		t.Errorf("Node(%d): %v, %t", u, n, ok)
	}
	if p.Size(u) != 0 || p.Depth(u) != 0 {
		t.Errorf("%d: size %d, depth %d", u, p.Size(u), p.Depth(u))
	}
	if x := p.Tree(u); spell(x) != spell(api.Tree{}) {
		t.Errorf("Tree(%d): %s", u, spell(x))
	}
	all := p.Subs(u)
	if all == nil {
		t.Fatalf("Subs(%d) is nil", u)
	}
	for v := range all {
		t.Errorf("Subs(%d) goes over %d", u, v)
	}
}

// of is the term of a right tree.
func of(t *testing.T, p *term.Pool, x api.Tree) api.Term {
	t.Helper()
	u, why := p.Of(x)
	if u == 0 || why != api.OK {
		t.Fatalf("Of a tree of kind %d: %d, error %d", x.Kind, u, why)
	}
	return u
}

// holds fails if a call that made a term did not answer so.
func holds(t *testing.T, what string, want api.Term, wantWhy api.Errno) func(api.Term, api.Errno) {
	t.Helper()
	return func(u api.Term, why api.Errno) {
		t.Helper()
		if u != want || why != wantWhy {
			t.Errorf("%s: %d, error %d instead of %d, error %d", what, u, why, want, wantWhy)
		}
	}
}

// filled is a pool of numbers, with room for so many more.
func filled(t *testing.T, room int) *term.Pool {
	t.Helper()
	p := term.New()
	for i := range api.MaxTerms - room {
		if u, why := p.Num(uint64(i)); int(u) != i+1 || why != api.OK {
			t.Fatalf("the term %d: %d, error %d", i+1, u, why)
		}
	}
	return p
}

// tower is one term inside so many others, its depth one more than these.
func tower(others int, x api.Tree) api.Tree {
	for range others {
		x = hash(x)
	}
	return x
}

// broad is a tree of an odd number of nodes, as low as pairs allow.
func broad(nodes int) api.Tree {
	if nodes == 1 {
		return num(7)
	}
	left := (nodes - 1) / 2
	if left%2 == 0 {
		left--
	}
	return pair(broad(left), broad(nodes-1-left))
}

// anyTree is a right tree of few words, so that alike ones come often.
func anyTree(d *dice, deep int) api.Tree {
	kinds := 9
	if deep == 0 {
		kinds = 4
	}
	from := d.upTo(3)
	switch d.upTo(kinds) {
	case 0:
		return name(from)
	case 1:
		return num([]uint64{0, 1, math.MaxUint64}[from])
	case 2:
		return data([]string{"", "a", "ab"}[from])
	case 3:
		return key(from)
	case 4:
		return hash(anyTree(d, deep-1))
	case 5:
		return sign(from, anyTree(d, deep-1))
	case 6:
		return prom(from, from+1, anyTree(d, deep-1))
	case 7:
		return fake(from+1, from, anyTree(d, deep-1))
	}
	return pair(anyTree(d, deep-1), anyTree(d, deep-1))
}

// trees are right ones of each kind, whose every field parts some two of them.
func trees() []api.Tree {
	a, b := data("a"), data("b")
	return []api.Tree{
		name(0), name(1), name(15), num(0), num(1), num(1 << 63), num(math.MaxUint64),
		data(""), a, b, data("ab"), data("\x00"), data("\xff"), data("b\x80"), data("é"),
		key(0), key(15), hash(a), hash(b), hash(hash(a)), hash(name(0)),
		pair(a, a), pair(a, b), pair(b, a), pair(b, b), pair(pair(a, b), a), pair(a, pair(b, a)),
		sign(0, a), sign(0, b), sign(1, a), sign(15, a),
		prom(0, 1, a), prom(1, 0, a), prom(0, 1, b), prom(0, 2, a), prom(15, 14, a),
		fake(0, 1, a), fake(1, 0, a), fake(0, 1, b), fake(0, 2, a), fake(15, 14, a),
		prom(0, 1, sign(2, pair(prom(1, 0, a), hash(fake(0, 1, a))))),
	}
}
