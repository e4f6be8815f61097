package term_test

import (
	"bytes"
	"slices"
	"testing"

	"escrow/api"
	"escrow/term"
)

// sides is -1, 0 or 1, as a is below, at or above b.
func sides(below, above bool) int {
	switch {
	case below:
		return -1
	case above:
		return 1
	}
	return 0
}

// compareTrees is what Compare should tell of the terms of two trees.
func compareTrees(a, b api.Tree) int {
	l := []int{
		sides(a.Kind < b.Kind, a.Kind > b.Kind),
		sides(a.From < b.From, a.From > b.From),
		sides(a.To < b.To, a.To > b.To),
		sides(a.Num < b.Num, a.Num > b.Num),
		bytes.Compare([]byte(a.Text), []byte(b.Text)),
	}
	for i := range min(len(a.Kids), len(b.Kids)) {
		l = append(l, compareTrees(a.Kids[i], b.Kids[i]))
	}
	for _, side := range l {
		if side != 0 {
			return side
		}
	}
	return 0
}

// P5.8: by kind, names, number, text, then by what stands in them; whichever numbers the terms have.
func TestCompare(t *testing.T) {
	d := dice(5)
	l := trees()
	for range 150 {
		l = append(l, anyTree(&d, 4))
	}
	front, back := term.New(), term.New()
	for i := range l {
		of(t, front, l[i])
		of(t, back, l[len(l)-1-i])
	}
	for _, p := range []*term.Pool{front, back} {
		for _, x := range l {
			for _, y := range l {
				if got, want := p.Compare(of(t, p, x), of(t, p, y)), compareTrees(x, y); got != want {
					t.Fatalf("%s and %s: %d instead of %d", spell(x), spell(y), got, want)
				}
			}
		}
	}
}

// P5.8: each field weighs more than those behind it.
func TestCompareFields(t *testing.T) {
	p := term.New()
	a, b := data("a"), data("b")
	for _, x := range [][2]api.Tree{
		{name(15), num(0)}, {num(9), data("")}, {data("b"), pair(a, a)}, {pair(b, b), hash(a)}, {hash(b), key(0)},
		{key(15), sign(0, a)}, {sign(15, b), prom(0, 1, a)}, {prom(15, 14, b), fake(0, 1, a)},
		{sign(0, b), sign(1, a)}, {prom(0, 9, b), prom(1, 0, a)}, {prom(0, 1, b), prom(0, 2, a)}, {fake(3, 1, b), fake(3, 2, a)},
		{num(1), num(1 << 63)}, {num(1<<63 - 1), num(1 << 63)}, {data(""), data("\x00")}, {data("a"), data("a\x00")}, {data("b"), data("é")}, {data("Z"), data("a")}, {data("\x7f"), data("\x80")},
		{pair(a, b), pair(b, a)}, {pair(a, a), pair(a, b)}, {pair(pair(a, a), b), pair(pair(a, b), a)}, {pair(name(1), b), pair(num(0), a)},
		{hash(hash(a)), hash(hash(b))}, {prom(0, 1, a), prom(0, 1, b)}, {tower(63, a), tower(63, b)}, {hash(a), tower(2, a)},
	} {
		above := of(t, p, x[1]) // made first, so that its number is the less
		below := of(t, p, x[0])
		if p.Compare(below, above) != -1 || p.Compare(above, below) != 1 {
			t.Errorf("%s and %s: %d, %d", spell(x[0]), spell(x[1]), p.Compare(below, above), p.Compare(above, below))
		}
	}
}

// P5.8: none is ahead of every term, and whatever is no term is none.
func TestCompareNone(t *testing.T) {
	p := term.New()
	for _, x := range trees() {
		of(t, p, x)
	}
	for _, none := range strange(p.Len()) {
		for _, other := range strange(p.Len()) {
			if got := p.Compare(none, other); got != 0 {
				t.Errorf("%d and %d: %d", none, other, got)
			}
		}
		for u := api.Term(1); int(u) <= p.Len(); u++ {
			if p.Compare(none, u) != -1 || p.Compare(u, none) != 1 {
				t.Errorf("%d and %d: %d, %d", none, u, p.Compare(none, u), p.Compare(u, none))
			}
		}
	}
}

// P5.10: a total order of the pool's terms: 0 just for the same, turned round when they are, and in a row.
func TestOrder(t *testing.T) {
	p := term.New()
	d := dice(9)
	for range 60 {
		of(t, p, anyTree(&d, 3))
	}
	all := []api.Term{0}
	for u := range p.Len() {
		all = append(all, api.Term(u+1))
	}
	for _, a := range all {
		for _, b := range all {
			if ab, ba := p.Compare(a, b), p.Compare(b, a); ab != -ba || (ab == 0) != (a == b) || ab < -1 || ab > 1 {
				t.Fatalf("%d and %d: %d, %d", a, b, ab, ba)
			}
		}
	}
	slices.SortFunc(all, p.Compare)
	for i, a := range all { // a row in which all two stand right: so it holds for all three, too
		for _, b := range all[i+1:] {
			if p.Compare(a, b) != -1 {
				t.Fatalf("%d and %d stand wrong in the row", a, b)
			}
		}
	}
	if all[0] != 0 {
		t.Errorf("the first is %d", all[0])
	}
}
