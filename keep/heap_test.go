package keep_test

import (
	"slices"
	"testing"

	"escrow/keep"
)

// thing has a rank by which it is less, and a number that tells it from those of its rank.
type thing struct{ rank, number int }

func lower(a, b thing) bool { return a.rank < b.rank }

// take is the thing that should be popped, and what is left, of things in the order in which they were pushed.
func take(l []thing) (thing, []thing) {
	best := 0
	for i := range l {
		if l[i].rank < l[best].rank {
			best = i
		}
	}
	return l[best], slices.Delete(slices.Clone(l), best, best+1)
}

// popHolds takes one thing out of both, and fails if it is not the same.
func popHolds(t *testing.T, h *keep.Heap[thing], l []thing) []thing {
	t.Helper()
	peek, peeked := h.Peek()
	length := h.Len()
	got, ok := h.Pop()
	if peek != got || peeked != ok || length != len(l) {
		t.Fatalf("%v: Len %d, Peek %v, Pop %v", l, length, peek, got)
	}
	if len(l) == 0 {
		if got != (thing{}) || ok || h.Len() != 0 {
			t.Fatalf("popped of none: %v, %t", got, ok)
		}
		return nil
	}
	want, rest := take(l)
	if got != want || !ok || h.Len() != len(rest) {
		t.Fatalf("%v: popped %v, %t", l, got, ok)
	}
	return rest
}

// P4.7: the second example.
func TestHeapExample(t *testing.T) {
	h := keep.NewHeap(func(a, b int) bool { return a/10 < b/10 })
	for _, n := range []int{21, 13, 22, 11} {
		h.Push(n)
	}
	for _, want := range []int{13, 11, 21, 22} {
		if n, ok := h.Pop(); n != want || !ok {
			t.Errorf("popped %d, %t instead of %d", n, ok, want)
		}
	}
}

// P4.7: all rows of pushes of three ranks and of pops.
func TestHeapRows(t *testing.T) {
	const long, ways = 7, 4
	rows := 1
	for range long {
		rows *= ways
	}
	for row := range rows {
		h := keep.NewHeap(lower)
		var l []thing
		for i := range long {
			if act := row % ways; act == ways-1 {
				l = popHolds(t, h, l)
			} else {
				h.Push(thing{act, i})
				l = append(l, thing{act, i})
			}
			row /= ways
		}
		for range long + 1 {
			l = popHolds(t, h, l)
		}
	}
}

// P4.7: pushes and pops by chance, of few ranks and many things.
func TestHeapChance(t *testing.T) {
	d := dice(7)
	h := keep.NewHeap(lower)
	var l []thing
	for i := range 6000 {
		if d.upTo(100) < 55 {
			x := thing{d.upTo(20), i}
			h.Push(x)
			l = append(l, x)
		} else {
			l = popHolds(t, h, l)
		}
	}
	for h.Len() > 0 {
		l = popHolds(t, h, l)
	}
	popHolds(t, h, l)
}

// P4.7, P4.11: what is popped is what was pushed, sorted stably.
func TestHeapSorts(t *testing.T) {
	d := dice(11)
	for _, n := range []int{0, 1, 2, 3, 10, 100, 1000, 20000} {
		for _, ranks := range []int{1, 2, 7, 1 << 30} {
			h := keep.NewHeap(lower)
			var want, got []thing
			for i := range n {
				x := thing{d.upTo(ranks), i}
				h.Push(x)
				want = append(want, x)
			}
			slices.SortStableFunc(want, func(a, b thing) int { return a.rank - b.rank })
			for h.Len() > 0 {
				x, _ := h.Pop()
				got = append(got, x)
			}
			if !slices.Equal(got, want) {
				t.Fatalf("%d things of %d ranks are not sorted", n, ranks)
			}
		}
	}
}

// P4.7: Peek takes nothing out; two heaps have nothing in common.
func TestHeapPeek(t *testing.T) {
	h, other := keep.NewHeap(lower), keep.NewHeap(func(a, b thing) bool { return lower(b, a) })
	for i := range 5 {
		h.Push(thing{i % 2, i})
		other.Push(thing{i % 2, i})
	}
	for range 3 {
		if x, ok := h.Peek(); x != (thing{0, 0}) || !ok || h.Len() != 5 {
			t.Errorf("Peek %v, %t, Len %d", x, ok, h.Len())
		}
		if x, ok := other.Peek(); x != (thing{1, 1}) || !ok || other.Len() != 5 {
			t.Errorf("Peek %v, %t, Len %d", x, ok, other.Len())
		}
	}
}

// P4.7: a nil heap, and one that is empty.
func TestHeapNone(t *testing.T) {
	var none *keep.Heap[string]
	none.Push("x")
	for _, h := range []*keep.Heap[string]{none, keep.NewHeap(func(a, b string) bool { return a < b })} {
		if v, ok := h.Pop(); v != "" || ok || h.Len() != 0 {
			t.Errorf("Pop: %q, %t, Len %d", v, ok, h.Len())
		}
		if v, ok := h.Peek(); v != "" || ok {
			t.Errorf("Peek: %q, %t", v, ok)
		}
	}
}

// Rule 1: where nobody says what is less, and where it is no order, every call ends, and no thing is lost.
func TestHeapWithoutOrder(t *testing.T) {
	d := dice(8)
	for _, less := range []func(a, b int) bool{
		nil,
		func(_, _ int) bool { return true },
		func(a, b int) bool { return a <= b },
		func(a, b int) bool { return (a+1)%3 == b%3 },
		func(_, _ int) bool { return d.upTo(2) == 0 },
	} {
		h := keep.NewHeap(less)
		for i := range 100 {
			h.Push(i)
		}
		var got []int
		for range 100 {
			v, _ := h.Pop()
			got = append(got, v)
		}
		slices.Sort(got)
		if v, ok := h.Pop(); ok || v != 0 || len(slices.Compact(got)) != 100 {
			t.Errorf("%d things of 100, then %d", len(slices.Compact(got)), v)
		}
	}
}
