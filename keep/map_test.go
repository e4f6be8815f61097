package keep_test

import (
	"math"
	"slices"
	"testing"

	"escrow/keep"
)

// P4.1, P4.2: the first example.
func TestMapExample(t *testing.T) {
	var m keep.Map[string, int]
	m = m.Put("b", 1).Put("a", 2).Put("b", 3)
	at := func(name string, k string, v int, ok bool, wk string, wv int, wok bool) {
		t.Helper()
		if k != wk || v != wv || ok != wok {
			t.Errorf("%s: %q, %d, %t", name, k, v, ok)
		}
	}
	k, v, ok := m.At(0)
	at("At(0)", k, v, ok, "a", 2, true)
	k, v, ok = m.At(1)
	at("At(1)", k, v, ok, "b", 3, true)
	k, v, ok = m.At(2)
	at("At(2)", k, v, ok, "", 0, false)
	k, v, ok = m.Floor("aa")
	at("Floor(aa)", k, v, ok, "a", 2, true)
	k, v, ok = m.Ceil("aa")
	at("Ceil(aa)", k, v, ok, "b", 3, true)
	k, v, ok = m.Ceil("c")
	at("Ceil(c)", k, v, ok, "", 0, false)
	k, v, ok = m.Floor("")
	at("Floor()", k, v, ok, "", 0, false)
	if m.Len() != 2 || m.Rank("b") != 1 || m.Drop("a").Len() != 1 || m.Len() != 2 {
		t.Errorf("Len %d, Rank %d", m.Len(), m.Rank("b"))
	}
}

// P4.1, P4.2, P4.3: the zero map is the empty one, and what is dropped to the last key too.
func TestMapEmpty(t *testing.T) {
	var m keep.Map[int, int]
	tells(t, m, nil, 3)
	tells(t, m.Drop(1), nil, 3)
	tells(t, m.Put(1, 1).Drop(1), nil, 3)
	tells(t, m.Put(1, 1).Put(0, 1).Drop(1).Drop(0), nil, 3)
	if m.Depth() > 2 {
		t.Errorf("Depth %d", m.Depth())
	}
}

// P4.1, P4.2, P4.12: all orders in which five keys can be put, and then each dropped.
func TestMapOrders(t *testing.T) {
	var all func(m keep.Map[int, int], p plain, left int)
	all = func(m keep.Map[int, int], p plain, left int) {
		tells(t, m, p, 5)
		for k := range 5 {
			tells(t, m.Drop(k), p.drop(k), 5)
			if left > 0 {
				all(m.Put(k, 10*left+k), p.put(k, 10*left+k), left-1)
			}
		}
	}
	all(keep.Map[int, int]{}, nil, 5)
}

// P4.1, P4.2, P4.3, P4.9: from maps of any age other maps are made; each of them tells, when all are made, what it told.
func TestMapVersions(t *testing.T) {
	const most = 40
	d := dice(1)
	maps, plains := []keep.Map[int, int]{{}}, []plain{nil}
	for i := range 1500 {
		old := max(0, len(maps)-1-d.upTo(30))
		k := d.upTo(most)
		m, p := maps[old].Put(k, i), plains[old].put(k, i)
		if d.upTo(5) < 2 {
			m, p = maps[old].Drop(k), plains[old].drop(k)
		}
		tells(t, m, p, most)
		maps, plains = append(maps, m), append(plains, p)
	}
	for i := range maps {
		tells(t, maps[i], plains[i], most)
	}
}

// P4.1: Drop of a key that is not there is the map itself.
func TestDropNone(t *testing.T) {
	m := keepOf(plain{{1, 10}, {3, 30}, {5, 50}})
	for _, k := range []int{0, 2, 4, 6, math.MinInt, math.MaxInt} {
		if m.Drop(k) != m {
			t.Errorf("Drop(%d) is another map", k)
		}
	}
}

// P4.1: values may be of any kind, also what cannot be compared, and the zero value is one that a key has.
func TestMapValues(t *testing.T) {
	var m keep.Map[string, []int]
	m = m.Put("a", []int{1, 2}).Put("b", nil)
	if v, ok := m.Get("a"); !ok || !slices.Equal(v, []int{1, 2}) {
		t.Errorf("a has %v, %t", v, ok)
	}
	if v, ok := m.Get("b"); !ok || v != nil {
		t.Errorf("b has %v, %t", v, ok)
	}
	if v, ok := m.Get("c"); ok || v != nil {
		t.Errorf("c has %v, %t", v, ok)
	}
	f := keep.Map[int, func() int]{}.Put(1, func() int { return 7 })
	if v, ok := f.Get(1); !ok || v() != 7 {
		t.Error("no function")
	}
}

type small uint8

type word string

// P4.1, P4.2: keys may be of every kind that is in order: by bytes, by value, at the edges.
func TestMapKeys(t *testing.T) {
	keysHold(t, []float64{math.Inf(-1), -math.MaxFloat64, -0.5, 0, math.SmallestNonzeroFloat64, 1, math.Inf(1)})
	keysHold(t, []int64{math.MinInt64, -1, 0, 1, math.MaxInt64})
	keysHold(t, []uint64{0, 1, 1 << 63, math.MaxUint64})
	keysHold(t, []small{0, 1, 127, 128, 255})
	keysHold(t, []word{"", "\x00", "A", "a", "a\x00", "aa", "b", "\x7f", "\x80", "é", "\xff"})
}

// keysHold puts rising keys from the back, and asks of each.
func keysHold[K int64 | uint64 | float64 | small | word](t *testing.T, keys []K) {
	t.Helper()
	var m keep.Map[K, int]
	for i := len(keys) - 1; i >= 0; i-- {
		m = m.Put(keys[i], i)
	}
	i := 0
	for k, v := range m.All() {
		if k != keys[i] || v != i {
			t.Errorf("number %d is %#v, %d", i, k, v)
		}
		i++
	}
	for i, k := range keys {
		if v, ok := m.Get(k); v != i || !ok || m.Rank(k) != i {
			t.Errorf("%#v has %d, %t, rank %d", k, v, ok, m.Rank(k))
		}
		if at, v, ok := m.At(m.Rank(k)); at != k || v != i || !ok {
			t.Errorf("%#v stands as %#v, %d, %t", k, at, v, ok)
		}
		if f, _, ok := m.Floor(k); f != k || !ok {
			t.Errorf("Floor(%#v): %#v, %t", k, f, ok)
		}
		if c, _, ok := m.Ceil(k); c != k || !ok {
			t.Errorf("Ceil(%#v): %#v, %t", k, c, ok)
		}
	}
}

// P4.1, P4.2: 0 and -0 are one key.
func TestMapZeros(t *testing.T) {
	minus := math.Copysign(0, -1)
	m := keep.Map[float64, int]{}.Put(0, 1).Put(minus, 2)
	if v, ok := m.Get(0); m.Len() != 1 || v != 2 || !ok || m.Rank(minus) != 0 || m.Drop(minus).Len() != 0 {
		t.Errorf("Len %d, 0 has %d, %t", m.Len(), v, ok)
	}
}

// P4.2: what All goes over may be left, gone over again, nested, and is that of the call, whatever is made meanwhile.
func TestAll(t *testing.T) {
	p := plain{{1, 10}, {2, 20}, {3, 30}, {4, 40}, {5, 50}}
	m := keepOf(p)
	all := m.All()
	for leave := range len(p) + 1 {
		var got plain
		for k, v := range all {
			if len(got) == leave {
				break
			}
			got = append(got, pair{k, v})
		}
		if !slices.Equal(got, p[:leave]) {
			t.Errorf("left behind %d: %v", leave, got)
		}
	}
	var nested int
	for k := range all {
		for l := range all {
			nested = (10*nested + k*l) % 1000003
		}
		m = m.Put(k+10, k).Drop(k)
	}
	want := 0
	for k := 1; k <= 5; k++ {
		for l := 1; l <= 5; l++ {
			want = (10*want + k*l) % 1000003
		}
	}
	if nested != want || !slices.Equal(pairs(all), p) {
		t.Errorf("nested %d instead of %d, then %v", nested, want, pairs(all))
	}
	tells(t, m, plain{{11, 1}, {12, 2}, {13, 3}, {14, 4}, {15, 5}}, 16)
}

// P4.2: who leaves All at a key is not called for another.
func TestAllLeaves(t *testing.T) {
	m := keepOf(plain{{1, 1}, {2, 2}, {3, 3}, {4, 4}, {5, 5}, {6, 6}, {7, 7}})
	for last := 1; last <= 7; last++ {
		calls := 0
		m.All()(func(k, _ int) bool {
			calls++
			return k < last
		})
		if calls != last {
			t.Errorf("left at %d: %d calls", last, calls)
		}
	}
	keep.Map[int, int]{}.All()(func(_, _ int) bool {
		t.Error("the empty map has a key")
		return true
	})
}

// P4.3: keys that rise, fall, come from both ends, and by chance; and then go from the front, the back, the middle, by chance.
func TestDepth(t *testing.T) {
	const n = 3000
	d := dice(3)
	orders := []func(i int) int{
		func(i int) int { return i },
		func(i int) int { return -i },
		func(i int) int { return i * (1 - i%2*2) },
		func(i int) int { return (n - i) * (1 - i%2*2) },
		func(int) int { return d.upTo(1 << 30) },
	}
	for _, order := range orders {
		var m keep.Map[int, struct{}]
		for i := range n {
			m = m.Put(order(i), struct{}{})
			depthHolds(t, m)
		}
		shrinks(t, m, func(int) int { return 0 })
		shrinks(t, m, func(left int) int { return left - 1 })
		shrinks(t, m, func(left int) int { return left / 2 })
		shrinks(t, m, func(left int) int { return d.upTo(left) })
	}
}

// shrinks drops the key of a number, until none is left.
func shrinks(t *testing.T, m keep.Map[int, struct{}], next func(left int) int) {
	t.Helper()
	for left := m.Len(); left > 0; left-- {
		k, _, ok := m.At(next(left))
		if !ok || m.Len() != left {
			t.Fatalf("%d keys instead of %d", m.Len(), left)
		}
		m = m.Drop(k)
		depthHolds(t, m)
	}
	if m.Len() != 0 {
		t.Fatalf("%d keys are left", m.Len())
	}
}

// P4.3: a map of few keys is not deep.
func TestDepthSmall(t *testing.T) {
	var m keep.Map[int, int]
	for n, most := range []int{2, 4, 6, 6, 8, 8, 8, 8, 10} {
		if m.Len() != n || m.Depth() > most || (m.Depth() > 0) != (n > 0) {
			t.Errorf("Len %d, depth %d, above %d", m.Len(), m.Depth(), most)
		}
		m = m.Put(n, 0)
	}
}

// P4.12: of maps with gaps, each key stands at its rank, and Floor and Ceil of it are it.
func TestKeysStand(t *testing.T) {
	d := dice(12)
	for range 50 {
		var m keep.Map[int, int]
		for range d.upTo(200) {
			m = m.Put(d.upTo(1000)-500, d.upTo(9))
		}
		for k, v := range m.All() {
			if at, w, ok := m.At(m.Rank(k)); at != k || w != v || !ok {
				t.Fatalf("At(Rank(%d)): %d, %d, %t", k, at, w, ok)
			}
			if f, w, ok := m.Floor(k); f != k || w != v || !ok {
				t.Fatalf("Floor(%d): %d, %d, %t", k, f, w, ok)
			}
			if c, w, ok := m.Ceil(k); c != k || w != v || !ok {
				t.Fatalf("Ceil(%d): %d, %d, %t", k, c, w, ok)
			}
		}
	}
}
