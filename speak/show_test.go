package speak_test

import (
	"math"
	"strings"
	"testing"

	"escrow/api"
	"escrow/speak"
	"escrow/term"
)

// shows fails if the tree's text is not this one.
func shows(t *testing.T, x api.Tree, want string) {
	t.Helper()
	if s, why := speak.Show(x); s != want || why != api.OK {
		t.Errorf("%.300q, error %d instead of %.300q", s, why, want)
	}
}

// The chapter's first example.
func TestShowExamples(t *testing.T) {
	shows(t, sign(0, pair(data("deal"), num(7))), `s0(("deal" #7))`)
	shows(t, prom(0, 1, name(2)), `p0>1(n2)`)
	shows(t, data("\n\""), `"\x0a\""`)
}

// P6.1: the text of each kind, by Show and by Print.
func TestShow(t *testing.T) {
	p := term.New()
	for text, x := range written() {
		shows(t, x, text)
		if s := speak.Print(p, of(t, p, x)); s != text {
			t.Errorf("Print: %q instead of %q", s, text)
		}
	}
	for n := range api.MaxNames {
		shows(t, name(n), textOf(name(n)))
		shows(t, key(n), textOf(key(n)))
		shows(t, sign(n, name(0)), textOf(sign(n, name(0))))
		shows(t, prom(n, 15-n, key(0)), textOf(prom(n, 15-n, key(0))))
		shows(t, fake(n, 15-n, key(0)), textOf(fake(n, 15-n, key(0))))
	}
	for n := range 64 {
		shows(t, num(1<<n), textOf(num(1<<n)))
		shows(t, num(1<<n-1), textOf(num(1<<n-1)))
	}
}

// P6.1: every byte of a datum, alone and among others.
func TestShowBytes(t *testing.T) {
	for c := range 256 {
		b := string([]byte{byte(c)})
		shows(t, data(b), textOf(data(b)))
		shows(t, data("a"+b+"0"), textOf(data("a"+b+"0")))
	}
	shows(t, data(strings.Repeat("\xff", 64)), `"`+strings.Repeat(`\xff`, 64)+`"`)
}

// P6.1: the tree is not changed, and an empty list of kids is as good as none.
func TestShowLeavesTree(t *testing.T) {
	x := pair(sign(1, data("a")), api.Tree{Kind: api.KindNum, Num: 5, Kids: make([]api.Tree, 0, 3)})
	for range 2 {
		shows(t, x, `(s1("a") #5)`)
	}
	if textOf(x) != `(s1("a") #5)` {
		t.Errorf("the tree became %v", x)
	}
}

// P6.1: "" and Of's error of what is no term's tree, wherever the wrong node stands.
func TestShowRefuses(t *testing.T) {
	a, long := data("a"), data(strings.Repeat("x", 65))
	endless := hash(a)
	endless.Kids[0] = endless
	for _, c := range []struct {
		x    api.Tree
		want api.Errno
	}{
		{api.Tree{}, api.ErrTree}, {api.Tree{Kind: -1}, api.ErrTree}, {api.Tree{Kind: 10}, api.ErrTree}, {api.Tree{Kind: math.MinInt}, api.ErrTree}, {api.Tree{Kind: math.MaxInt}, api.ErrTree},
		{api.Tree{Kind: api.KindPair, Kids: []api.Tree{a}}, api.ErrTree}, {api.Tree{Kind: api.KindHash}, api.ErrTree}, {api.Tree{Kind: api.KindName, Kids: []api.Tree{a}}, api.ErrTree},
		{api.Tree{Kind: api.KindName, Num: 1}, api.ErrTree}, {api.Tree{Kind: api.KindNum, Text: "a"}, api.ErrTree}, {api.Tree{Kind: api.KindHash, To: 1, Kids: []api.Tree{a}}, api.ErrTree},
		{name(-1), api.ErrName}, {name(16), api.ErrName}, {key(math.MaxInt), api.ErrName}, {sign(16, a), api.ErrName}, {prom(1, 1, a), api.ErrName}, {fake(0, 16, a), api.ErrName},
		{long, api.ErrLong},
		{tower(64, a), api.ErrLarge}, {broad(4097, a), api.ErrLarge}, {endless, api.ErrLarge},
	} {
		for _, x := range []api.Tree{c.x, hash(c.x), pair(a, c.x), pair(c.x, long), prom(2, 3, pair(key(0), c.x))} {
			if s, why := speak.Show(x); s != "" || why != c.want {
				t.Errorf("kind %d: %.100q, error %d instead of %d", c.x.Kind, s, why, c.want)
			}
		}
	}
}

// P6.1: the largest and the deepest trees have texts.
func TestShowLargest(t *testing.T) {
	for _, x := range []api.Tree{tower(63, name(1)), hash(broad(4095, data("a"))), hash(broad(4095, data(strings.Repeat("\n", 64))))} {
		shows(t, x, textOf(x))
	}
}

// P6.1: each term of a pool, whatever else is in it; "" of what is none.
func TestPrint(t *testing.T) {
	p := term.New()
	d := dice(1)
	for range 200 {
		x := anyTree(&d, 4)
		if s := speak.Print(p, of(t, p, x)); s != textOf(x) {
			t.Fatalf("%q instead of %q", s, textOf(x))
		}
	}
	for u := api.Term(1); int(u) <= p.Len(); u++ {
		if s := speak.Print(p, u); s != textOf(p.Tree(u)) {
			t.Fatalf("the term %d: %q", u, s)
		}
	}
	long := p.Len()
	for _, u := range []api.Term{0, -1, math.MinInt, math.MaxInt, api.Term(long + 1)} {
		if s := speak.Print(p, u); s != "" {
			t.Errorf("%d: %q", u, s)
		}
	}
	if p.Len() != long {
		t.Errorf("%d terms instead of %d", p.Len(), long)
	}
	if s := speak.Print(term.New(), 1); s != "" {
		t.Errorf("of a pool without terms: %q", s)
	}
}
