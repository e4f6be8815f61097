package timers_test

import (
	"math"
	"slices"
	"testing"

	"escrow/api"
	"escrow/timers"
)

// P14.1: a new wheel is at tick 0, without timers.
func TestNew(t *testing.T) {
	w := timers.New[string]()
	if w.Now() != 0 || w.Len() != 0 || len(w.List()) != 0 {
		t.Errorf("Now %d, Len %d, List %q", w.Now(), w.Len(), w.List())
	}
	if at, ok := w.Next(); at != 0 || ok {
		t.Errorf("Next %d, %t", at, ok)
	}
	if l := w.Tick(); len(l) != 0 || w.Now() != 1 {
		t.Errorf("Tick %q, Now %d", l, w.Now())
	}
}

// P14.1: ids rise by 1, whatever was refused, cancelled or fell due in between.
func TestIds(t *testing.T) {
	w := timers.New[int]()
	next := func(call func() (int, api.Errno), want int) {
		t.Helper()
		if id, why := call(); id != want || why != api.OK {
			t.Errorf("id %d, %d instead of %d", id, why, want)
		}
	}
	set := func() (int, api.Errno) { return w.Set(w.Now()+5, 0) }
	after := func() (int, api.Errno) { return w.After(1, 0) }
	next(set, 0)
	next(after, 1)
	w.Set(0, 0)
	w.After(0, 0)
	next(set, 2)
	w.Cancel(2)
	next(set, 3)
	w.Turn(9)
	next(after, 4)
	w.Move(4, 99)
	next(set, 5)
	if w.Len() != 2 {
		t.Errorf("Len %d", w.Len())
	}
}

// P14.1: a tick that is not above Now is past; above it, up to the greatest, it is to come.
func TestSetPast(t *testing.T) {
	w := timers.New[int]()
	w.Set(9, 1)
	w.Turn(3)
	for _, at := range []int64{3, 2, 0, -1, math.MinInt64} {
		refuses(t, w, "Set", api.ErrPast, func() api.Errno {
			id, why := w.Set(at, 2)
			if id != 0 {
				t.Errorf("Set(%d): id %d", at, id)
			}
			return why
		})
	}
	for i, at := range []int64{4, math.MaxInt64} {
		if id, why := w.Set(at, 2); id != i+1 || why != api.OK {
			t.Errorf("Set(%d): %d, %d", at, id, why)
		}
		if due, ok := w.Due(i + 1); due != at || !ok {
			t.Errorf("Due(%d): %d, %t", i+1, due, ok)
		}
	}
}

// P14.1: MaxTimers may be set at once; a tick that is past is told ahead of that, and one that comes free is taken again.
func TestSetMany(t *testing.T) {
	w := full(t, 9)
	refuses(t, w, "Set", api.ErrMany, func() api.Errno { _, why := w.Set(1, 0); return why })
	refuses(t, w, "After", api.ErrMany, func() api.Errno { _, why := w.After(1, 0); return why })
	refuses(t, w, "Set", api.ErrPast, func() api.Errno { _, why := w.Set(0, 0); return why })
	refuses(t, w, "After", api.ErrArg, func() api.Errno { _, why := w.After(0, 0); return why })
	if id, why := w.Set(1, 0); id != 0 || why != api.ErrMany {
		t.Errorf("Set: %d, %d", id, why)
	}
	if why := w.Move(17, 3); why != api.OK {
		t.Errorf("Move: %d", why)
	}
	w.Cancel(18)
	if id, why := w.Set(1, 0); id != api.MaxTimers || why != api.OK {
		t.Errorf("Set: %d, %d", id, why)
	}
	refuses(t, w, "Set", api.ErrMany, func() api.Errno { _, why := w.Set(1, 0); return why })
	w.Tick()
	if id, why := w.After(1, 0); id != api.MaxTimers+1 || why != api.OK {
		t.Errorf("After: %d, %d", id, why)
	}
}

// P14.1: After counts from Now on, up to the greatest int64.
func TestAfter(t *testing.T) {
	w := timers.New[int]()
	if id, why := w.After(math.MaxInt64, 0); id != 0 || why != api.OK {
		t.Errorf("After at 0: %d, %d", id, why)
	}
	if at, ok := w.Due(0); at != math.MaxInt64 || !ok {
		t.Errorf("Due: %d, %t", at, ok)
	}
	w.Turn(5)
	for _, n := range []int64{0, -1, math.MinInt64, math.MaxInt64, math.MaxInt64 - 4} {
		refuses(t, w, "After", api.ErrArg, func() api.Errno {
			id, why := w.After(n, 0)
			if id != 0 {
				t.Errorf("After(%d): id %d", n, id)
			}
			return why
		})
	}
	for i, n := range []int64{math.MaxInt64 - 5, 1, 2} {
		id, why := w.After(n, 0)
		if at, ok := w.Due(id); id != i+1 || why != api.OK || at != n+5 || !ok {
			t.Errorf("After(%d): %d, %d, due %d, %t", n, id, why, at, ok)
		}
	}
}

// P14.1, P14.3: at the greatest tick nothing is to come any more.
func TestGreatest(t *testing.T) {
	w := timers.New[int]()
	w.Set(math.MaxInt64, 1)
	if l, why := w.Turn(math.MaxInt64 - 1); len(l) != 0 || why != api.OK || w.Now() != math.MaxInt64-1 {
		t.Fatalf("Turn: %v, %d, Now %d", l, why, w.Now())
	}
	w.After(1, 2)
	if l := w.Tick(); !slices.Equal(l, []int{1, 2}) || w.Now() != math.MaxInt64 {
		t.Errorf("Tick: %v, Now %d", l, w.Now())
	}
	if l := w.Tick(); len(l) != 0 || w.Now() != math.MaxInt64 {
		t.Errorf("Tick at the greatest: %v, Now %d", l, w.Now())
	}
	refuses(t, w, "Set", api.ErrPast, func() api.Errno { _, why := w.Set(math.MaxInt64, 0); return why })
	refuses(t, w, "After", api.ErrArg, func() api.Errno { _, why := w.After(1, 0); return why })
	refuses(t, w, "Turn", api.ErrArg, func() api.Errno { _, why := w.Turn(1); return why })
	refuses(t, w, "Turn", api.OK, func() api.Errno { _, why := w.Turn(0); return why })
}

// P14.2: what is cancelled is gone, just once, and falls due no more.
func TestCancel(t *testing.T) {
	w := timers.New[string]()
	w.Set(2, "a")
	w.Set(2, "b")
	w.Set(1, "c")
	if v, ok := w.Cancel(1); v != "b" || !ok {
		t.Errorf("Cancel(1): %q, %t", v, ok)
	}
	w.Tick()
	for _, id := range []int{1, 2, 3, 9, -1, math.MaxInt, math.MinInt} { // cancelled, fell due, never given
		if v, ok := w.Cancel(id); v != "" || ok {
			t.Errorf("Cancel(%d): %q, %t", id, v, ok)
		}
		if at, ok := w.Due(id); at != 0 || ok {
			t.Errorf("Due(%d): %d, %t", id, at, ok)
		}
	}
	if l := w.Tick(); !slices.Equal(l, []string{"a"}) {
		t.Errorf("Tick: %q", l)
	}
}

// P14.2: what is moved falls due behind all that are set for that tick then.
func TestMove(t *testing.T) {
	w := timers.New[string]()
	for i, v := range []string{"a", "b", "c", "d"} {
		w.Set(int64(5+i/2), v)
	}
	for _, x := range []struct {
		id   int
		at   int64
		want []string
	}{
		{0, 5, []string{"b", "a", "c", "d"}},
		{0, 5, []string{"b", "a", "c", "d"}}, // the last one stays where it is
		{0, 6, []string{"b", "c", "d", "a"}},
		{2, 6, []string{"b", "d", "a", "c"}},
		{2, 5, []string{"b", "c", "d", "a"}},
		{1, 7, []string{"c", "d", "a", "b"}},
		{1, 1, []string{"b", "c", "d", "a"}},
	} {
		why := w.Move(x.id, x.at)
		if at, ok := w.Due(x.id); why != api.OK || at != x.at || !ok || !slices.Equal(w.List(), x.want) {
			t.Errorf("Move(%d, %d): %d, due %d, %t, List %q", x.id, x.at, why, at, ok, w.List())
		}
	}
	if l, _ := w.Turn(9); !slices.Equal(l, []string{"b", "c", "d", "a"}) {
		t.Errorf("Turn: %q", l)
	}
}

// P14.2: a timer that there is not is told ahead of a tick that is past; what is refused stays at its place.
func TestMoveRefused(t *testing.T) {
	w := timers.New[int]()
	w.Set(5, 0)
	w.Set(5, 1)
	w.Set(5, 2)
	w.Set(2, 3)
	w.Turn(2)
	w.Cancel(1)
	for _, at := range []int64{2, 0, -1, math.MinInt64} {
		refuses(t, w, "Move", api.ErrPast, func() api.Errno { return w.Move(0, at) })
	}
	for _, id := range []int{1, 3, 4, -1, math.MaxInt, math.MinInt} {
		refuses(t, w, "Move", api.ErrNone, func() api.Errno { return w.Move(id, 9) })
		refuses(t, w, "Move", api.ErrNone, func() api.Errno { return w.Move(id, 0) })
	}
	if l := w.List(); !slices.Equal(l, []int{0, 2}) {
		t.Errorf("List: %v", l)
	}
}

// P14.2: List and Next go by ticks, whatever the order of setting.
func TestOrder(t *testing.T) {
	w := timers.New[string]()
	for i, at := range []int64{7, 300, 2, math.MaxInt64, 7, 10, 2} {
		w.Set(at, string(rune('a'+i)))
	}
	if l := w.List(); !slices.Equal(l, []string{"c", "g", "a", "e", "f", "b", "d"}) || w.Len() != 7 {
		t.Errorf("Len %d, List %q", w.Len(), l)
	}
	for _, want := range []int64{2, 2, 7, 7, 10, 300, math.MaxInt64} {
		at, ok := w.Next()
		if at != want || !ok {
			t.Errorf("Next %d, %t instead of %d", at, ok, want)
		}
		for id := range 7 {
			if due, set := w.Due(id); set && due == at {
				w.Cancel(id)
				break
			}
		}
	}
	if at, ok := w.Next(); at != 0 || ok || w.Len() != 0 {
		t.Errorf("Next %d, %t of none, Len %d", at, ok, w.Len())
	}
}

// P14.6: a nil wheel.
func TestNil(t *testing.T) {
	var w *timers.Wheel[string]
	for _, n := range []int64{-1, 0, 1, math.MaxInt64} {
		if id, why := w.Set(n, "a"); id != 0 || why != api.ErrNone {
			t.Errorf("Set: %d, %d", id, why)
		}
		if id, why := w.After(n, "a"); id != 0 || why != api.ErrNone {
			t.Errorf("After: %d, %d", id, why)
		}
		if why := w.Move(0, n); why != api.ErrNone {
			t.Errorf("Move: %d", why)
		}
		if l, why := w.Turn(n); len(l) != 0 || why != api.ErrNone {
			t.Errorf("Turn: %q, %d", l, why)
		}
	}
	w.On(func(int, string) { t.Error("called") })
	w.On(nil)
	if v, ok := w.Cancel(0); v != "" || ok {
		t.Errorf("Cancel: %q, %t", v, ok)
	}
	if at, ok := w.Due(0); at != 0 || ok {
		t.Errorf("Due: %d, %t", at, ok)
	}
	if at, ok := w.Next(); at != 0 || ok {
		t.Errorf("Next: %d, %t", at, ok)
	}
	if w.Now() != 0 || w.Len() != 0 || len(w.List()) != 0 || len(w.Tick()) != 0 {
		t.Errorf("Now %d, Len %d, List %q, Tick %q", w.Now(), w.Len(), w.List(), w.Tick())
	}
}

// P14.2, P14.3, P14.4: lists that are answered are new each time, spare room too.
func TestNewLists(t *testing.T) {
	w := timers.New[int]()
	for i := range 5 {
		w.Set(int64(2+i), i)
	}
	spoil := func(l []int) {
		for i := range l[:cap(l)] {
			l[:cap(l)][i] = -1
		}
	}
	spoil(w.List())
	if l := w.List(); !slices.Equal(l, []int{0, 1, 2, 3, 4}) {
		t.Errorf("List: %v", l)
	}
	first, _ := w.Turn(3)
	second := w.Tick()
	spoil(first)
	if !slices.Equal(second, []int{2}) {
		t.Errorf("Tick: %v", second)
	}
	spoil(second)
	if l, _ := w.Turn(9); !slices.Equal(l, []int{3, 4}) {
		t.Errorf("Turn: %v", l)
	}
}
