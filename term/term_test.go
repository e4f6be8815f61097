package term_test

import (
	"math"
	"strings"
	"testing"

	"escrow/api"
	"escrow/term"
)

// The chapter's examples, in their order.
func TestExamples(t *testing.T) {
	p := term.New()
	holds(t, "Name(0)", 1, api.OK)(p.Name(0))
	holds(t, "Data(x)", 2, api.OK)(p.Data("x"))
	holds(t, "Pair(1, 2)", 3, api.OK)(p.Pair(1, 2))
	holds(t, "Name(0)", 1, api.OK)(p.Name(0))
	holds(t, "Sign(0, 3)", 4, api.OK)(p.Sign(0, 3))
	holds(t, "Pair(3, 9)", 0, api.ErrTerm)(p.Pair(3, 9))
	holds(t, "Prom(1, 1, 2)", 0, api.ErrName)(p.Prom(1, 1, 2))
	if p.Size(4) != 4 || p.Depth(4) != 3 {
		t.Errorf("size %d, depth %d", p.Size(4), p.Depth(4))
	}
	x := data("x")
	tells(t, p, plain{name(0), x, pair(name(0), x), sign(0, pair(name(0), x))})

	q := term.New()
	if u := of(t, q, pair(data("a"), data("a"))); q.Size(u) != 3 || q.Len() != 2 {
		t.Errorf("size %d, %d terms", q.Size(u), q.Len())
	}
	q = term.New()
	five, zero := of(t, q, name(5)), of(t, q, num(0))
	if q.Compare(five, zero) != -1 || q.Compare(0, 0) != 0 {
		t.Errorf("Compare: %d, %d", q.Compare(five, zero), q.Compare(0, 0))
	}
}

// P5.1: no terms; pools share nothing.
func TestNew(t *testing.T) {
	p, q := term.New(), term.New()
	tells(t, p, nil)
	of(t, p, sign(1, data("a")))
	tells(t, q, nil)
	of(t, q, name(3))
	tells(t, p, plain{data("a"), sign(1, data("a"))})
	tells(t, q, plain{name(3)})
}

// P5.2: each is Make of the node with its fields, right or wrong.
func TestMakers(t *testing.T) {
	p, q := term.New(), term.New()
	same := func(what string, n api.Node) func(api.Term, api.Errno) {
		u, why := q.Make(n)
		return holds(t, what, u, why)
	}
	names := append(wrongNames(), 0, 1, 2, 14, 15)
	for range 2 { // once they are new, once they are there
		for _, n := range names {
			same("Name", api.Node{Kind: api.KindName, From: n})(p.Name(n))
			same("Key", api.Node{Kind: api.KindKey, From: n})(p.Key(n))
		}
		for _, n := range []uint64{0, 1, 1 << 63, math.MaxUint64} {
			same("Num", api.Node{Kind: api.KindNum, Num: n})(p.Num(n))
		}
		for _, s := range []string{"", "a", "\x00", strings.Repeat("x", 64), strings.Repeat("x", 65)} {
			same("Data", api.Node{Kind: api.KindData, Text: s})(p.Data(s))
		}
		for _, a := range append(strange(p.Len()), 1, 2, 9) {
			same("Hash", api.Node{Kind: api.KindHash, A: a})(p.Hash(a))
			for _, b := range append(strange(p.Len()), 1, 3) {
				same("Pair", api.Node{Kind: api.KindPair, A: a, B: b})(p.Pair(a, b))
			}
			for _, n := range names {
				same("Sign", api.Node{Kind: api.KindSign, From: n, A: a})(p.Sign(n, a))
				same("Prom", api.Node{Kind: api.KindProm, From: n, To: 1, A: a})(p.Prom(n, 1, a))
				same("Prom", api.Node{Kind: api.KindProm, From: 2, To: n, A: a})(p.Prom(2, n, a))
				same("Fake", api.Node{Kind: api.KindFake, From: n, To: 1, A: a})(p.Fake(n, 1, a))
				same("Fake", api.Node{Kind: api.KindFake, From: 2, To: n, A: a})(p.Fake(2, n, a))
			}
		}
	}
	if p.Len() != q.Len() || p.Len() < 80 {
		t.Errorf("%d terms instead of %d", p.Len(), q.Len())
	}
	for u := range api.Term(q.Len() + 1) {
		n, ok := p.Node(u)
		if m, there := q.Node(u); n != m || ok != there {
			t.Errorf("the term %d: %v instead of %v", u, n, m)
		}
	}
}

// P5.3: the numbers follow on one another; a node that is there has its number.
func TestMake(t *testing.T) {
	p := term.New()
	var l plain
	for range 2 {
		for _, x := range trees() {
			long := len(l)
			want := l.lay(x)
			if len(l) > long+1 { // its kids are to be made ahead of it
				of(t, p, x)
				continue
			}
			n := l.node(x)
			u, there := p.Has(n)
			if there != (int(want) <= long) || there && u != want || !there && u != 0 {
				t.Fatalf("Has of %s: %d, %t", spell(x), u, there)
			}
			holds(t, spell(x), want, api.OK)(p.Make(n))
			holds(t, spell(x), want, api.OK)(p.Make(n))
		}
	}
	tells(t, p, l)
}

// rightNodes are one of each kind; 1 to 3 are terms.
func rightNodes() []api.Node {
	return []api.Node{
		{Kind: api.KindName, From: 9}, {Kind: api.KindNum, Num: 9}, {Kind: api.KindData, Text: "9"},
		{Kind: api.KindPair, A: 1, B: 2}, {Kind: api.KindHash, A: 1}, {Kind: api.KindKey, From: 9},
		{Kind: api.KindSign, From: 9, A: 1}, {Kind: api.KindProm, From: 9, To: 8, A: 1}, {Kind: api.KindFake, From: 9, To: 8, A: 1},
	}
}

// refused fails if the pool, of three terms, makes the node, or changes by it.
func refused(t *testing.T, p *term.Pool, n api.Node, want api.Errno) {
	t.Helper()
	if u, why := p.Make(n); u != 0 || why != want {
		t.Errorf("%v: %d, error %d instead of %d", n, u, why, want)
	}
	if u, there := p.Has(n); u != 0 || there || p.Len() != 3 {
		t.Errorf("%v: Has %d, %t; %d terms", n, u, there, p.Len())
	}
}

// three is a pool with the terms 1 to 3.
func three(t *testing.T) *term.Pool {
	t.Helper()
	p := term.New()
	of(t, p, hash(hash(num(1))))
	return p
}

// P5.3: ErrTree: no kind, or something in a field that the kind does not have; it is told ahead of all else.
func TestErrTree(t *testing.T) {
	p := three(t)
	for _, kind := range []int{0, -1, 10, 11, math.MinInt, math.MaxInt} {
		refused(t, p, api.Node{Kind: kind}, api.ErrTree)
		refused(t, p, api.Node{Kind: kind, From: -1, A: 99}, api.ErrTree)
		for _, n := range rightNodes() {
			n.Kind = kind
			refused(t, p, n, api.ErrTree)
		}
	}
	has := map[int]string{
		api.KindName: "f", api.KindNum: "n", api.KindData: "s", api.KindPair: "ab", api.KindHash: "a",
		api.KindKey: "f", api.KindSign: "fa", api.KindProm: "fta", api.KindFake: "fta",
	}
	for _, right := range rightNodes() {
		for field := range strings.SplitSeq("f t n s a b", " ") {
			if strings.Contains(has[right.Kind], field) {
				continue
			}
			for _, n := range filledIn(right, field) {
				refused(t, p, n, api.ErrTree)
				n.Text += strings.Repeat("x", 99*len(n.Text))
				refused(t, p, n, api.ErrTree)
				if strings.Contains(has[n.Kind], "f") {
					n.From = -1
					refused(t, p, n, api.ErrTree)
				}
				if strings.Contains(has[n.Kind], "a") {
					n.A = 99
					refused(t, p, n, api.ErrTree)
				}
			}
		}
	}
}

// filledIn are nodes that have something in one more field.
func filledIn(n api.Node, field string) []api.Node {
	one, two, three := n, n, n
	switch field {
	case "f":
		one.From, two.From, three.From = 1, -1, 16
	case "t":
		one.To, two.To, three.To = 1, -1, 16
	case "n":
		one.Num, two.Num, three.Num = 1, 1<<63, math.MaxUint64
	case "s":
		one.Text, two.Text, three.Text = "a", "\x00", strings.Repeat("x", 65)
	case "a":
		one.A, two.A, three.A = 1, -1, 99
	case "b":
		one.B, two.B, three.B = 1, -1, 99
	}
	return []api.Node{one, two, three}
}

// P5.3: ErrName: no name, or a promise to oneself; told ahead of a wrong term.
func TestErrName(t *testing.T) {
	p := three(t)
	for _, a := range append(strange(3), 1, 3) {
		for _, n := range wrongNames() {
			refused(t, p, api.Node{Kind: api.KindSign, From: n, A: a}, api.ErrName)
			for _, kind := range []int{api.KindProm, api.KindFake} {
				refused(t, p, api.Node{Kind: kind, From: n, To: 0, A: a}, api.ErrName)
				refused(t, p, api.Node{Kind: kind, From: 0, To: n, A: a}, api.ErrName)
				refused(t, p, api.Node{Kind: kind, From: n, To: n, A: a}, api.ErrName)
			}
		}
		for n := range api.MaxNames {
			refused(t, p, api.Node{Kind: api.KindProm, From: n, To: n, A: a}, api.ErrName)
			refused(t, p, api.Node{Kind: api.KindFake, From: n, To: n, A: a}, api.ErrName)
		}
	}
	for _, n := range wrongNames() {
		refused(t, p, api.Node{Kind: api.KindName, From: n}, api.ErrName)
		refused(t, p, api.Node{Kind: api.KindKey, From: n}, api.ErrName)
	}
}

// P5.3: all names are names, and all two of them that are unlike stand in a promise and a fake.
func TestNames(t *testing.T) {
	p := term.New()
	of(t, p, data(""))
	for from := range api.MaxNames {
		for _, n := range []api.Node{{Kind: api.KindName, From: from}, {Kind: api.KindKey, From: from}, {Kind: api.KindSign, From: from, A: 1}} {
			holds(t, "a name", api.Term(p.Len()+1), api.OK)(p.Make(n))
		}
		for to := range api.MaxNames {
			if from != to {
				holds(t, "a promise", api.Term(p.Len()+1), api.OK)(p.Prom(from, to, 1))
				holds(t, "a fake", api.Term(p.Len()+1), api.OK)(p.Fake(from, to, 1))
			}
		}
	}
}

// P5.3: ErrLong: more than 64 bytes.
func TestErrLong(t *testing.T) {
	p := three(t)
	for _, s := range []string{strings.Repeat("x", 65), strings.Repeat("é", 33), strings.Repeat("\x00", 66), strings.Repeat("x", 1<<20)} {
		refused(t, p, api.Node{Kind: api.KindData, Text: s}, api.ErrLong)
	}
	for i, s := range []string{strings.Repeat("x", 64), strings.Repeat("é", 32), strings.Repeat("\x00", 64), strings.Repeat("x", 63)} {
		holds(t, "of 64 bytes", api.Term(4+i), api.OK)(p.Data(s))
	}
}

// P5.3: ErrTerm: what is no term stands where one should.
func TestErrTerm(t *testing.T) {
	p := three(t)
	for _, a := range strange(3) {
		refused(t, p, api.Node{Kind: api.KindHash, A: a}, api.ErrTerm)
		refused(t, p, api.Node{Kind: api.KindSign, From: 1, A: a}, api.ErrTerm)
		refused(t, p, api.Node{Kind: api.KindProm, From: 1, A: a}, api.ErrTerm)
		refused(t, p, api.Node{Kind: api.KindFake, From: 1, A: a}, api.ErrTerm)
		for _, b := range append(strange(3), 1, 2, 3) {
			refused(t, p, api.Node{Kind: api.KindPair, A: a, B: b}, api.ErrTerm)
			refused(t, p, api.Node{Kind: api.KindPair, A: b, B: a}, api.ErrTerm)
		}
	}
}

// A nil pool: 0, no term, none, false, OK, whatever is asked.
func TestNil(t *testing.T) {
	var p *term.Pool
	for _, n := range append(rightNodes(), api.Node{}, api.Node{Kind: 10}, api.Node{Kind: api.KindName, From: -1}) {
		holds(t, "Make", 0, api.OK)(p.Make(n))
		if u, there := p.Has(n); u != 0 || there {
			t.Errorf("Has: %d, %t", u, there)
		}
	}
	for _, n := range []int{0, -1, 16} {
		holds(t, "Name", 0, api.OK)(p.Name(n))
		holds(t, "Key", 0, api.OK)(p.Key(n))
		holds(t, "Sign", 0, api.OK)(p.Sign(n, 1))
		holds(t, "Prom", 0, api.OK)(p.Prom(n, 1, 0))
		holds(t, "Fake", 0, api.OK)(p.Fake(n, 1, 0))
	}
	holds(t, "Num", 0, api.OK)(p.Num(0))
	holds(t, "Data", 0, api.OK)(p.Data(strings.Repeat("x", 65)))
	holds(t, "Pair", 0, api.OK)(p.Pair(1, 0))
	holds(t, "Hash", 0, api.OK)(p.Hash(0))
	holds(t, "Of", 0, api.OK)(p.Of(name(0)))
	holds(t, "Of none", 0, api.OK)(p.Of(api.Tree{}))
	q := three(t)
	for _, u := range append(strange(3), 1) {
		noTerm(t, p, u)
		holds(t, "Copy to none", 0, api.OK)(p.Copy(q, u))
		holds(t, "Copy of none to none", 0, api.OK)(p.Copy(nil, u))
		holds(t, "Copy of none", 0, api.ErrTerm)(q.Copy(p, u))
		if p.Compare(u, 1) != 0 || p.Compare(2, u) != 0 {
			t.Errorf("Compare with %d: %d, %d", u, p.Compare(u, 1), p.Compare(2, u))
		}
	}
	if p.Len() != 0 || q.Len() != 3 {
		t.Errorf("%d and %d terms", p.Len(), q.Len())
	}
}
