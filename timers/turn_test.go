package timers_test

import (
	"math"
	"slices"
	"testing"

	"escrow/api"
	"escrow/timers"
)

// P14.1 to P14.4: the examples of the chapter.
func TestExamples(t *testing.T) {
	w := timers.New[string]()
	w.Set(3, "a")
	w.Set(2, "b")
	w.Set(3, "c")
	if at, ok := w.Next(); at != 2 || !ok {
		t.Errorf("Next: %d, %t", at, ok)
	}
	if l, why := w.Turn(2); !slices.Equal(l, []string{"b"}) || why != api.OK {
		t.Errorf("Turn: %q, %d", l, why)
	}
	if l := w.Tick(); !slices.Equal(l, []string{"a", "c"}) || w.Now() != 3 {
		t.Errorf("Tick: %q, Now %d", l, w.Now())
	}
	if _, why := w.Set(3, "d"); why != api.ErrPast {
		t.Errorf("Set: %d", why)
	}
	for _, cancels := range []bool{false, true} {
		w = timers.New[string]()
		w.Set(5, "a")
		w.Set(5, "b")
		w.Move(0, 5)
		want := []string{"b", "a"}
		if cancels {
			if v, ok := w.Cancel(1); v != "b" || !ok {
				t.Errorf("Cancel: %q, %t", v, ok)
			}
			want = want[1:]
		}
		if l, why := w.Turn(5); !slices.Equal(l, want) || why != api.OK {
			t.Errorf("Turn: %q, %d", l, why)
		}
	}
}

// P14.3: a tick takes out just what is set for it, in the order in which it was set for it.
func TestTick(t *testing.T) {
	w := timers.New[int]()
	for i, at := range []int64{1, 3, 1, 2, 3, 1} {
		w.Set(at, i)
	}
	w.Move(2, 3)
	w.Move(1, 2)
	for i, want := range [][]int{{0, 5}, {3, 1}, {4, 2}, {}} {
		l := w.Tick()
		if !slices.Equal(l, want) || w.Now() != int64(i+1) {
			t.Errorf("Tick number %d: %v instead of %v, Now %d", i, l, want, w.Now())
		}
		for _, id := range want {
			if at, ok := w.Due(id); at != 0 || ok {
				t.Errorf("Due(%d): %d, %t", id, at, ok)
			}
		}
	}
	if w.Len() != 0 {
		t.Errorf("Len %d", w.Len())
	}
}

// P14.4: turns that cannot be.
func TestTurnRefused(t *testing.T) {
	w := timers.New[int]()
	w.Set(3, 1)
	w.Turn(2)
	for _, n := range []int64{-1, math.MinInt64, math.MaxInt64, math.MaxInt64 - 1} {
		refuses(t, w, "Turn", api.ErrArg, func() api.Errno {
			l, why := w.Turn(n)
			if len(l) != 0 {
				t.Errorf("Turn(%d): %v", n, l)
			}
			return why
		})
	}
	refuses(t, w, "Turn", api.OK, func() api.Errno { _, why := w.Turn(0); return why })
	if l, why := w.Turn(math.MaxInt64 - 2); !slices.Equal(l, []int{1}) || why != api.OK || w.Now() != math.MaxInt64 {
		t.Errorf("Turn: %v, %d, Now %d", l, why, w.Now())
	}
}

// P14.4: the time of a turn grows with what falls due, not with n: ticks that lie as far apart as may be, and a row of turns of 2^50 ticks.
func TestTurnFar(t *testing.T) {
	w := timers.New[int]()
	var want []int
	for i := range 63 {
		w.Set(math.MaxInt64>>i, i)
		want = append(want, 62-i)
	}
	if l, why := w.Turn(math.MaxInt64); !slices.Equal(l, want) || why != api.OK {
		t.Errorf("Turn: %v, %d", l, why)
	}
	w = timers.New[int]()
	for i := range 1000 {
		w.After(1<<50, i)
		w.After(1<<50+1, -i)
		l, why := w.Turn(1 << 50)
		if len(l) == 0 || l[len(l)-1] != i || why != api.OK || w.Now() != int64(i+1)<<50 {
			t.Fatalf("Turn number %d: %v, %d, Now %d", i, l, why, w.Now())
		}
	}
}

// P14.3, P14.4: as many as may be, all at one tick, and each at a tick of its own.
func TestTurnFull(t *testing.T) {
	w := full(t, 7)
	all := w.List()
	if l, why := w.Turn(7); len(l) != api.MaxTimers || !slices.IsSorted(l) || !slices.Equal(l, all) || why != api.OK {
		t.Errorf("Turn: %d values, %d", len(l), why)
	}
	w = full(t, 9)
	for id := range api.MaxTimers {
		w.Move(id, int64(10+api.MaxTimers-id))
	}
	l, why := w.Turn(10 + api.MaxTimers)
	slices.Reverse(l)
	if len(l) != api.MaxTimers || !slices.IsSorted(l) || why != api.OK || w.Len() != 0 {
		t.Errorf("Turn: %d values, %d, Len %d", len(l), why, w.Len())
	}
}
