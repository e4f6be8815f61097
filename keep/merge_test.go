package keep_test

import (
	"slices"
	"testing"

	"escrow/keep"
)

// asked is one question to how.
type asked struct{ x, y int }

// byBits is the map of the keys whose bits are set, with values of their own.
func byBits(bits, first int) plain {
	var p plain
	for k := range 6 {
		if bits>>k&1 == 1 {
			p = append(p, pair{k, first + k})
		}
	}
	return p
}

// together is what Merge should be, and what it should ask.
func together(a, b plain, how func(x, y int) int) (plain, []asked) {
	var all plain
	var l []asked
	for k := -1; k <= 1000; k++ {
		x, inA := a.get(k)
		y, inB := b.get(k)
		switch {
		case inA && inB:
			l = append(l, asked{x, y})
			all = append(all, pair{k, how(x, y)})
		case inA:
			all = append(all, pair{k, x})
		case inB:
			all = append(all, pair{k, y})
		}
	}
	return all, l
}

func apart(x, y int) int { return 10000*x + y }

// mergeHolds merges, and holds what comes out, what was asked, and both maps against the lists.
func mergeHolds(t *testing.T, m, n keep.Map[int, int], a, b plain) keep.Map[int, int] {
	t.Helper()
	var got []asked
	both := keep.Merge(m, n, func(x, y int) int {
		got = append(got, asked{x, y})
		return apart(x, y)
	})
	all, want := together(a, b, apart)
	if !slices.Equal(got, want) {
		t.Fatalf("%v and %v: asked %v instead of %v", a, b, got, want)
	}
	if !slices.Equal(pairs(both.All()), all) {
		t.Fatalf("%v and %v: %v instead of %v", a, b, pairs(both.All()), all)
	}
	if !slices.Equal(pairs(m.All()), a) || !slices.Equal(pairs(n.All()), b) {
		t.Fatalf("%v and %v are changed", a, b)
	}
	depthHolds(t, both)
	return both
}

// P4.4, P4.9: of all maps of six keys each two: who asked how, in which order, of what.
func TestMerge(t *testing.T) {
	for x := range 64 {
		for y := range 64 {
			a, b := byBits(x, 100), byBits(y, 200)
			both := mergeHolds(t, keepOf(a), keepOf(b), a, b)
			all, _ := together(a, b, apart)
			tells(t, both, all, 6)
		}
	}
}

// P4.3, P4.4, P4.9: great with small, one beside the other, one inside the other, in turns, by chance, with itself.
func TestMergeShapes(t *testing.T) {
	run := func(from, to, step int) plain {
		var p plain
		for k := from; k < to; k += step {
			p = append(p, pair{k, k})
		}
		return p
	}
	d := dice(4)
	var chance plain
	for range 300 {
		chance = chance.put(d.upTo(1000), d.upTo(1000))
	}
	shapes := []plain{
		nil, run(0, 1000, 1), run(500, 501, 1), run(0, 500, 1), run(500, 1000, 1), run(300, 320, 1),
		run(0, 1000, 2), run(1, 1000, 2), run(0, 1000, 97), run(990, 1000, 1), run(0, 3, 1), chance,
	}
	for _, a := range shapes {
		for _, b := range shapes {
			mergeHolds(t, keepOf(a), keepOf(b), a, b)
		}
	}
	m := keepOf(chance)
	mergeHolds(t, m, m, chance, chance)
}

// P4.4, P4.9: how may look at the maps, and make others of them.
func TestMergeLooks(t *testing.T) {
	p := byBits(63, 1)
	m := keepOf(p)
	var others []keep.Map[int, int]
	both := keep.Merge(m, m, func(x, y int) int {
		others = append(others, m.Drop(x-1).Put(y, 0))
		return x + m.Len()
	})
	want := plain{{0, 7}, {1, 8}, {2, 9}, {3, 10}, {4, 11}, {5, 12}}
	tells(t, both, want, 6)
	tells(t, m, p, 6)
	if len(others) != 6 {
		t.Errorf("asked %d times", len(others))
	}
}

// Rule 1: Merge without a how ends; nothing is promised of what the keys of both have, but they are there.
func TestMergeNil(t *testing.T) {
	both := keep.Merge(keepOf(byBits(7, 10)), keepOf(byBits(28, 20)), nil)
	var keys []int
	for k := range both.All() {
		keys = append(keys, k)
	}
	if !slices.Equal(keys, []int{0, 1, 2, 3, 4}) {
		t.Errorf("keys %v", keys)
	}
	if x, _ := both.Get(0); x != 10 {
		t.Errorf("0 has %d", x)
	}
	if x, _ := both.Get(4); x != 24 {
		t.Errorf("4 has %d", x)
	}
}
