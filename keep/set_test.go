package keep_test

import (
	"math"
	"math/bits"
	"slices"
	"testing"

	"escrow/keep"
)

const universe = 5 // keys of the sets of which all are tried

// setOf is the set of the keys whose bits are set, added in an order of its own.
func setOf(mask int) keep.Set[int] {
	var s keep.Set[int]
	for i := range universe {
		if k := (i*3 + mask) % universe; mask>>k&1 == 1 {
			s = s.Add(k)
		}
	}
	return s
}

func allSets() []keep.Set[int] {
	var l []keep.Set[int]
	for mask := range 1 << universe {
		l = append(l, setOf(mask))
	}
	return l
}

// setHolds fails if s does not tell just the keys of the mask.
func setHolds(t *testing.T, s keep.Set[int], mask int) {
	t.Helper()
	var want []int
	for k := -1; k <= universe; k++ {
		in := k >= 0 && mask>>k&1 == 1
		if in {
			want = append(want, k)
		}
		if s.Has(k) != in {
			t.Fatalf("%05b: Has(%d): %t", mask, k, !in)
		}
	}
	if l := s.List(); !slices.Equal(l, want) || s.Len() != len(want) {
		t.Fatalf("%05b: Len %d, List %v", mask, s.Len(), l)
	}
}

func equalSets(s, t keep.Set[int]) bool {
	return slices.Equal(s.List(), t.List())
}

// P4.5: the third example, and sets of keys that come twice, in no order, or not at all.
func TestSetOf(t *testing.T) {
	for _, x := range []struct{ l, want []int }{
		{nil, nil},
		{[]int{}, nil},
		{[]int{3, 1, 3}, []int{1, 3}},
		{[]int{7}, []int{7}},
		{[]int{2, 2, 2}, []int{2}},
		{[]int{math.MaxInt, 0, math.MinInt, -1}, []int{math.MinInt, -1, 0, math.MaxInt}},
	} {
		s := keep.SetOf(x.l...)
		if got := s.List(); !slices.Equal(got, x.want) || s.Len() != len(x.want) {
			t.Errorf("SetOf(%v): Len %d, List %v", x.l, s.Len(), got)
		}
	}
	if l := keep.SetOf("b", "", "a", "b").List(); !slices.Equal(l, []string{"", "a", "b"}) {
		t.Errorf("List %q", l)
	}
}

// P4.5: the zero set is the empty one.
func TestSetEmpty(t *testing.T) {
	var s keep.Set[int]
	setHolds(t, s, 0)
	setHolds(t, s.Drop(1), 0)
	setHolds(t, s.Or(s), 0)
	setHolds(t, s.And(s), 0)
	setHolds(t, s.Minus(s), 0)
	if !s.Within(s) || !s.Within(setOf(1)) || setOf(1).Within(s) {
		t.Error("Within of the empty set")
	}
}

// P4.5, P4.9: of all sets: each key added and dropped; the set itself stays.
func TestSetKeys(t *testing.T) {
	for mask, s := range allSets() {
		setHolds(t, s, mask)
		for k := range universe {
			setHolds(t, s.Add(k), mask|1<<k)
			setHolds(t, s.Drop(k), mask&^(1<<k))
			setHolds(t, s, mask)
		}
		setHolds(t, s.Drop(-1), mask)
		setHolds(t, s.Drop(universe), mask)
	}
}

// P4.5, P4.9: of all sets each two.
func TestSetPairs(t *testing.T) {
	sets := allSets()
	for x, s := range sets {
		for y, u := range sets {
			setHolds(t, s.Or(u), x|y)
			setHolds(t, s.And(u), x&y)
			setHolds(t, s.Minus(u), x&^y)
			if s.Within(u) != (x&^y == 0) {
				t.Fatalf("%05b within %05b: %t", x, y, s.Within(u))
			}
			setHolds(t, s, x)
			setHolds(t, u, y)
		}
	}
}

// P4.10: of all sets each two, and each three.
func TestSetLaws(t *testing.T) {
	sets := allSets()
	for _, a := range sets {
		for _, b := range sets {
			lawsOfTwo(t, a, b)
			for _, c := range sets {
				if !equalSets(a.Or(b).Or(c), a.Or(b.Or(c))) || !equalSets(a.And(b).And(c), a.And(b.And(c))) {
					t.Fatalf("%v, %v, %v: not associative", a.List(), b.List(), c.List())
				}
			}
		}
	}
}

func lawsOfTwo(t *testing.T, a, b keep.Set[int]) {
	t.Helper()
	if !equalSets(a.Or(b), b.Or(a)) || !equalSets(a.And(b), b.And(a)) {
		t.Fatalf("%v, %v: an order", a.List(), b.List())
	}
	if !equalSets(a.Or(a.And(b)), a) || !equalSets(a.And(a.Or(b)), a) {
		t.Fatalf("%v, %v: not absorbed", a.List(), b.List())
	}
	rest, both := a.Minus(b), a.And(b)
	if rest.And(both).Len() != 0 || !equalSets(rest.Or(both), a) || !equalSets(both.Or(rest), a) {
		t.Fatalf("%v, %v: not in two parts", a.List(), b.List())
	}
}

// P4.5, P4.10: great sets, of numbers that one of two others divides.
func TestSetsGreat(t *testing.T) {
	const n = 2000
	var s, u keep.Set[int]
	for k := range n {
		if k%2 == 0 {
			s = s.Add(k)
		}
		if k%3 == 0 {
			u = u.Add(n - 1 - k)
		}
	}
	lawsOfTwo(t, s, u)
	lawsOfTwo(t, s, setOf(5))
	lawsOfTwo(t, setOf(5), s)
	or, and, minus := s.Or(u), s.And(u), s.Minus(u)
	for k := range n {
		in, of := k%2 == 0, (n-1-k)%3 == 0
		if or.Has(k) != (in || of) || and.Has(k) != (in && of) || minus.Has(k) != (in && !of) {
			t.Fatalf("%d: Or %t, And %t, Minus %t", k, or.Has(k), and.Has(k), minus.Has(k))
		}
	}
	if s.Within(u) || !and.Within(u) || or.Len() != s.Len()+u.Len()-and.Len() {
		t.Errorf("Or has %d, And %d", or.Len(), and.Len())
	}
}

// Rule 3: the list that is handed in is neither changed nor kept; each that is told is new.
func TestSetLists(t *testing.T) {
	room := []int{5, 2, 9, 77}
	l := room[:3]
	s := keep.SetOf(l...)
	if !slices.Equal(room, []int{5, 2, 9, 77}) {
		t.Errorf("handed in, and then %v", room)
	}
	l[0] = 6
	told := s.List()
	told[0] = 8
	_ = append(told[:1], 1, 1, 1, 1)
	if again := s.List(); !slices.Equal(again, []int{2, 5, 9}) {
		t.Errorf("List %v", again)
	}
}

// P4.5: many more keys than a word has bits.
func TestSetAddsAll(t *testing.T) {
	s := keep.SetOf[uint16]()
	for i := range 1 << 12 {
		s = s.Add(bits.Reverse16(uint16(i)))
	}
	l := s.List()
	if len(l) != 1<<12 || !slices.IsSorted(l) || l[0] != 0 || l[len(l)-1] != 0xfff0 {
		t.Errorf("%d keys", len(l))
	}
}
