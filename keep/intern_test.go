package keep_test

import (
	"math"
	"testing"

	"escrow/keep"
)

// P4.8: the third example, and what has no number.
func TestIntern(t *testing.T) {
	n := keep.NewIntern[string]()
	if v, ok := n.Find("x"); v != 0 || ok || n.Len() != 0 {
		t.Errorf("Find of none: %d, %t, Len %d", v, ok, n.Len())
	}
	for i, x := range []struct {
		v    string
		want int
	}{{"x", 0}, {"y", 1}, {"x", 0}, {"", 2}, {"y", 1}, {"", 2}, {"z", 3}} {
		if got := n.Of(x.v); got != x.want {
			t.Errorf("%d: Of(%q): %d", i, x.v, got)
		}
	}
	for i, want := range []string{"x", "y", "", "z"} {
		if v, ok := n.Value(i); v != want || !ok {
			t.Errorf("Value(%d): %q, %t", i, v, ok)
		}
		if number, ok := n.Find(want); number != i || !ok {
			t.Errorf("Find(%q): %d, %t", want, number, ok)
		}
	}
	for range 2 {
		if number, ok := n.Find("w"); number != 0 || ok || n.Len() != 4 {
			t.Errorf("Find of a new one: %d, %t, Len %d", number, ok, n.Len())
		}
	}
	for _, i := range []int{-1, 4, 5, math.MinInt, math.MaxInt} {
		if v, ok := n.Value(i); v != "" || ok {
			t.Errorf("Value(%d): %q, %t", i, v, ok)
		}
	}
}

// P4.8: many things, each twice, by keys of many parts.
func TestInternMany(t *testing.T) {
	type key struct {
		text string
		at   [2]int
	}
	n := keep.NewIntern[key]()
	of := func(i int) key { return key{string(rune('a' + i%7)), [2]int{i % 11, -i}} }
	for range 2 {
		for i := range 3000 {
			if got := n.Of(of(i)); got != i {
				t.Fatalf("Of the thing %d: %d", i, got)
			}
		}
	}
	for i := range 3000 {
		if v, ok := n.Value(i); v != of(i) || !ok {
			t.Fatalf("Value(%d): %v, %t", i, v, ok)
		}
	}
	if n.Len() != 3000 {
		t.Errorf("Len %d", n.Len())
	}
}

// P4.8: a nil table.
func TestInternNil(t *testing.T) {
	var n *keep.Intern[int]
	if got := n.Of(5); got != -1 {
		t.Errorf("Of: %d", got)
	}
	if number, ok := n.Find(5); number != 0 || ok || n.Len() != 0 {
		t.Errorf("Find: %d, %t, Len %d", number, ok, n.Len())
	}
	for _, i := range []int{-1, 0, 1} {
		if v, ok := n.Value(i); v != 0 || ok {
			t.Errorf("Value(%d): %d, %t", i, v, ok)
		}
	}
}

// Rule 1: what cannot be compared after all has no number and gets none; nothing panics, and nothing is kept.
func TestInternIncomparable(t *testing.T) {
	type box struct {
		f float64
		v any
	}
	n := keep.NewIntern[any]()
	n.Of(1)
	for _, v := range []any{[]int{1}, map[int]int{}, func() {}, [1]any{[]int{}}, box{math.NaN(), []int{}}} {
		if got := n.Of(v); got != -1 {
			t.Errorf("Of: %d", got)
		}
		if number, ok := n.Find(v); number != 0 || ok || n.Len() != 1 {
			t.Errorf("Find: %d, %t, Len %d", number, ok, n.Len())
		}
	}
	if n.Of("1") != 1 || n.Of(int64(1)) != 2 || n.Of(nil) != 3 || n.Of(1) != 0 || n.Len() != 4 {
		t.Errorf("Len %d", n.Len())
	}
	if v, ok := n.Value(3); v != nil || !ok {
		t.Errorf("Value(3): %v, %t", v, ok)
	}
}
