package timers_test

import (
	"math"
	"slices"
	"testing"

	"escrow/api"
	"escrow/timers"
)

// P14.5: each f is called for each timer, the first one first, timer by timer, once it was taken out, at its tick; a nil one is passed over.
func TestOn(t *testing.T) {
	for _, whole := range []bool{true, false} {
		w := timers.New[int]()
		var l []int
		for number := range 3 {
			w.On(func(id, v int) {
				at, due := w.Due(id)
				v2, set := w.Cancel(id)
				if at != 0 || due || v2 != 0 || set {
					t.Errorf("timer %d is there yet", id)
				}
				l = append(l, number, id, v, int(w.Now()), w.Len())
			})
			w.On(nil)
		}
		w.Set(4, 10)
		w.Set(2, 11)
		w.Set(4, 12)
		want := []int{
			0, 1, 11, 2, 2, 1, 1, 11, 2, 2, 2, 1, 11, 2, 2,
			0, 0, 10, 4, 1, 1, 0, 10, 4, 1, 2, 0, 10, 4, 1,
			0, 2, 12, 4, 0, 1, 2, 12, 4, 0, 2, 2, 12, 4, 0,
		}
		if whole {
			w.Turn(5)
		} else {
			for range 5 {
				w.Tick()
			}
		}
		if !slices.Equal(l, want) || w.Now() != 5 {
			t.Errorf("called %v instead of %v, Now %d", l, want, w.Now())
		}
	}
}

// P14.5: f is called from then on, and not for what fell due ahead of that; what is cancelled is told to nobody.
func TestOnLater(t *testing.T) {
	w := timers.New[int]()
	for i := range 4 {
		w.Set(int64(i+1), i)
	}
	w.Turn(2)
	var l []int
	w.On(func(id, _ int) { l = append(l, id) })
	w.Cancel(2)
	w.Turn(2)
	if !slices.Equal(l, []int{3}) {
		t.Errorf("called %v", l)
	}
}

// P14.5: what is registered while a timer falls due is called from the next one on, behind the others.
func TestOnWithin(t *testing.T) {
	w := timers.New[int]()
	var l []int
	w.On(func(id, _ int) {
		l = append(l, id)
		w.On(func(inner, _ int) { l = append(l, 100*(id+1)+inner) })
	})
	w.Set(1, 0)
	w.Set(1, 0)
	w.Set(2, 0)
	w.Turn(2)
	if want := []int{0, 1, 101, 2, 102, 202}; !slices.Equal(l, want) {
		t.Errorf("called %v instead of %v", l, want)
	}
}

// P14.5: what f sets is set as by anybody else, and falls due in the same turn, if its tick is in it.
func TestSetWithin(t *testing.T) {
	w := timers.New[int]()
	var l []int
	w.On(func(id, v int) {
		l = append(l, id, v, int(w.Now()))
		if _, why := w.Set(w.Now(), 0); why != api.ErrPast {
			t.Errorf("Set at Now: %d", why)
		}
		if v < 3 {
			w.After(2, v+1)
		}
	})
	w.Set(1, 0)
	w.Set(3, 10)
	values, why := w.Turn(6)
	if want := []int{0, 0, 1, 1, 10, 3, 2, 1, 3, 3, 2, 5}; !slices.Equal(l, want) {
		t.Errorf("called %v instead of %v", l, want)
	}
	if !slices.Equal(values, []int{0, 10, 1, 2}) || why != api.OK || w.Now() != 6 {
		t.Errorf("Turn: %v, %d, Now %d", values, why, w.Now())
	}
	if at, ok := w.Due(4); at != 7 || !ok {
		t.Errorf("Due: %d, %t", at, ok)
	}
}

// P14.5: where as many as may be are set, the one that falls due makes room for one.
func TestRoomWithin(t *testing.T) {
	w := full(t, 9)
	w.Move(0, 5)
	var l []api.Errno
	w.On(func(int, int) {
		for range 2 {
			_, why := w.Set(9, 0)
			l = append(l, why)
		}
	})
	if w.Turn(5); !slices.Equal(l, []api.Errno{api.OK, api.ErrMany}) {
		t.Errorf("Set within: %d", l)
	}
}

// P14.5: what f cancels or moves while it was to fall due at the same tick does not fall due then; what it moves from later ticks does at its own.
func TestAwayWithin(t *testing.T) {
	for _, whole := range []bool{true, false} {
		w := timers.New[int]()
		for i, at := range []int64{2, 2, 2, 2, 9, 4} {
			w.Set(at, i)
		}
		w.On(func(id, _ int) {
			if id != 0 {
				return
			}
			if at, ok := w.Due(1); at != 2 || !ok { // it is to fall due yet
				t.Errorf("Due: %d, %t", at, ok)
			}
			if at, ok := w.Next(); at != 2 || !ok || w.Len() != 5 || !slices.Equal(w.List(), []int{1, 2, 3, 5, 4}) {
				t.Errorf("Next %d, %t, Len %d, List %v", at, ok, w.Len(), w.List())
			}
			if v, ok := w.Cancel(1); v != 1 || !ok {
				t.Errorf("Cancel: %d, %t", v, ok)
			}
			for _, x := range []struct {
				id   int
				at   int64
				want api.Errno
			}{{2, 2, api.ErrPast}, {0, 3, api.ErrNone}, {1, 3, api.ErrNone}, {2, 4, api.OK}, {4, 3, api.OK}} {
				if why := w.Move(x.id, x.at); why != x.want {
					t.Errorf("Move(%d, %d): %d", x.id, x.at, why)
				}
			}
		})
		var l []int
		if whole {
			l, _ = w.Turn(6)
		} else {
			for range 6 {
				l = append(l, w.Tick()...)
			}
		}
		if !slices.Equal(l, []int{0, 3, 4, 5, 2}) || w.Len() != 0 {
			t.Errorf("fell due %v, Len %d", l, w.Len())
		}
	}
}

// P14.5: of two that fall due at one tick either may cancel the other: then just the first falls due.
func TestCancelOther(t *testing.T) {
	w := timers.New[int]()
	w.Set(1, 0)
	w.Set(1, 1)
	w.On(func(id, _ int) { w.Cancel(1 - id) })
	if l := w.Tick(); !slices.Equal(l, []int{0}) || w.Len() != 0 {
		t.Errorf("Tick: %v, Len %d", l, w.Len())
	}
}

// P14.5: f may not turn the wheel: then nothing happens, and the call ends.
func TestTurnWithin(t *testing.T) {
	w := timers.New[int]()
	calls := 0
	w.On(func(int, int) {
		calls++
		w.After(1, 9)
		refuses(t, w, "Turn", api.ErrArg, func() api.Errno {
			l, why := w.Turn(0)
			if len(l) != 0 {
				t.Errorf("Turn within: %v", l)
			}
			return why
		})
		refuses(t, w, "Tick", api.OK, func() api.Errno { return api.Errno(len(w.Tick())) })
	})
	w.Set(2, 1)
	w.Set(2, 2)
	if l, why := w.Turn(3); !slices.Equal(l, []int{1, 2, 9, 9}) || why != api.OK || calls != 4 || w.Now() != 3 {
		t.Errorf("Turn: %v, %d, %d calls, Now %d", l, why, calls, w.Now())
	}
	if l := w.Tick(); !slices.Equal(l, []int{9, 9}) { // afterwards it turns again
		t.Errorf("Tick: %v", l)
	}
}

// P14.5 (and rule 1: no call panics): an f that panics was called; the others are, and what is behind falls due.
func TestPanicWithin(t *testing.T) {
	w := timers.New[int]()
	var l []int
	w.On(func(id, _ int) {
		if id == 0 {
			panic("f")
		}
		var none []int
		l = append(l, none[id])
	})
	w.On(func(id, _ int) { l = append(l, id) })
	w.Set(1, 5)
	w.Set(1, 6)
	w.Set(2, 7)
	if got := w.Tick(); !slices.Equal(got, []int{5, 6}) || !slices.Equal(l, []int{0, 1}) {
		t.Errorf("Tick: %v, called %v", got, l)
	}
	if got, why := w.Turn(1); !slices.Equal(got, []int{7}) || why != api.OK || w.Len() != 0 {
		t.Errorf("Turn: %v, %d", got, why)
	}
}

// P14.5: at the greatest tick f is called too, and nothing is to come.
func TestOnGreatest(t *testing.T) {
	w := timers.New[int]()
	called := false
	w.On(func(int, int) {
		called = true
		if _, why := w.After(1, 0); why != api.ErrArg || w.Now() != math.MaxInt64 {
			t.Errorf("After: %d, Now %d", why, w.Now())
		}
	})
	w.Set(math.MaxInt64, 0)
	if w.Turn(math.MaxInt64); !called {
		t.Error("not called")
	}
}
