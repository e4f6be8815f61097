package keep_test

import (
	"iter"
	"math"
	"math/bits"
	"slices"
	"testing"

	"escrow/keep"
)

// dice is a row of numbers that looks like chance, the same each time.
type dice uint64

func (d *dice) upTo(n int) int {
	*d = *d*6364136223846793005 + 1442695040888963407
	return int(uint64(*d) >> 33 % uint64(n))
}

type pair struct{ k, v int }

// plain is a map as a list, its keys rising: what a keep.Map is held against.
type plain []pair

// place is the number of the first key that is not below k.
func (p plain) place(k int) int {
	n := 0
	for _, x := range p {
		if x.k < k {
			n++
		}
	}
	return n
}

func (p plain) has(k int) bool {
	return slices.ContainsFunc(p, func(x pair) bool { return x.k == k })
}

func (p plain) put(k, v int) plain {
	n := p.place(k)
	return slices.Insert(p.drop(k), n, pair{k, v})
}

func (p plain) drop(k int) plain {
	var l plain
	for _, x := range p {
		if x.k != k {
			l = append(l, x)
		}
	}
	return l
}

// at is what At should tell of a number.
func (p plain) at(i int) (int, int, bool) {
	if i < 0 || i >= len(p) {
		return 0, 0, false
	}
	return p[i].k, p[i].v, true
}

// get is what Get should tell of a key.
func (p plain) get(k int) (int, bool) {
	for _, x := range p {
		if x.k == k {
			return x.v, true
		}
	}
	return 0, false
}

func (p plain) floor(k int) (int, int, bool) {
	if p.has(k) {
		return p.at(p.place(k))
	}
	return p.at(p.place(k) - 1)
}

// keepOf is a keep.Map of the same, put in from the front.
func keepOf(p plain) keep.Map[int, int] {
	var m keep.Map[int, int]
	for _, x := range p {
		m = m.Put(x.k, x.v)
	}
	return m
}

func pairs(all iter.Seq2[int, int]) plain {
	var l plain
	for k, v := range all {
		l = append(l, pair{k, v})
	}
	return l
}

// depthHolds fails where P4.3 is broken.
func depthHolds[V any](t *testing.T, m keep.Map[int, V]) {
	t.Helper()
	if most := 2*bits.Len(uint(m.Len())) + 2; m.Depth() > most || m.Depth() < 0 {
		t.Fatalf("%d keys: depth %d, above %d", m.Len(), m.Depth(), most)
	}
}

// tells fails if m does not tell just what p does; all keys of p are from -1 to most.
func tells(t *testing.T, m keep.Map[int, int], p plain, most int) {
	t.Helper()
	if got := pairs(m.All()); m.Len() != len(p) || !slices.Equal(got, p) {
		t.Fatalf("Len %d, All %v instead of %v", m.Len(), got, p)
	}
	for i := -2; i <= len(p)+1; i++ {
		atHolds(t, m, p, i)
	}
	for _, i := range []int{math.MinInt, math.MinInt + 1, math.MaxInt - 1, math.MaxInt} {
		atHolds(t, m, p, i)
	}
	for k := -2; k <= most+1; k++ {
		keyHolds(t, m, p, k)
	}
	keyHolds(t, m, p, math.MinInt)
	keyHolds(t, m, p, math.MaxInt)
	depthHolds(t, m)
}

func atHolds(t *testing.T, m keep.Map[int, int], p plain, i int) {
	t.Helper()
	k, v, ok := m.At(i)
	if wk, wv, wok := p.at(i); k != wk || v != wv || ok != wok {
		t.Fatalf("%v: At(%d): %d, %d, %t", p, i, k, v, ok)
	}
}

func keyHolds(t *testing.T, m keep.Map[int, int], p plain, k int) {
	t.Helper()
	if v, ok := m.Get(k); !same2(v, ok)(p.get(k)) {
		t.Fatalf("%v: Get(%d): %d, %t", p, k, v, ok)
	}
	if n := m.Rank(k); n != p.place(k) {
		t.Fatalf("%v: Rank(%d): %d", p, k, n)
	}
	if f, v, ok := m.Floor(k); !same3(f, v, ok)(p.floor(k)) {
		t.Fatalf("%v: Floor(%d): %d, %d, %t", p, k, f, v, ok)
	}
	if c, v, ok := m.Ceil(k); !same3(c, v, ok)(p.at(p.place(k))) {
		t.Fatalf("%v: Ceil(%d): %d, %d, %t", p, k, c, v, ok)
	}
}

func same2(v int, ok bool) func(int, bool) bool {
	return func(w int, wok bool) bool { return v == w && ok == wok }
}

func same3(k, v int, ok bool) func(int, int, bool) bool {
	return func(wk, wv int, wok bool) bool { return k == wk && v == wv && ok == wok }
}
