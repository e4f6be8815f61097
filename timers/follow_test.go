package timers_test

import (
	"slices"
	"strconv"
	"testing"

	"escrow/api"
	"escrow/timers"
)

// pair is a text of an answer of two.
func pair[A, B any](show func(A) string, other func(B) string) func(A, B) string {
	return func(a A, b B) string { return show(a) + "," + other(b) }
}

func errno(e api.Errno) string { return strconv.Itoa(int(e)) }

// acts are the steps of small scripts: what each answers.
func acts() []func(c clock) string {
	made := pair(strconv.Itoa, errno)
	found := pair(strconv.Itoa, strconv.FormatBool)
	turned := pair(row, errno)
	return []func(c clock) string{
		func(c clock) string { return made(c.Set(2, c.Len()+10)) },
		func(c clock) string { return made(c.Set(3, c.Len()+20)) },
		func(c clock) string { return made(c.After(1, c.Len()+30)) },
		func(c clock) string { return found(c.Cancel(0)) },
		func(c clock) string { return found(c.Cancel(1)) },
		func(c clock) string { return errno(c.Move(0, 3)) },
		func(c clock) string { return errno(c.Move(1, 2)) },
		func(c clock) string { return row(c.Tick()) },
		func(c clock) string { return turned(c.Turn(2)) },
	}
}

// P14.1 to P14.4, P14.9: all scripts of six acts, held against the plain wheel behind each act.
func TestSmallScripts(t *testing.T) {
	const long = 6
	all := acts()
	scripts := 1
	for range long {
		scripts *= len(all)
	}
	for script := range scripts {
		w, p := timers.New[int](), &plain{}
		for i, n := 0, script; i < long; i, n = i+1, n/len(all) {
			got, want := all[n%len(all)](w), all[n%len(all)](p)
			if got != want || i == long-1 && stands(w, 4) != stands(p, 4) {
				t.Fatalf("script %d, act %d: %s, %s instead of %s, %s", script, i, got, stands(w, 4), want, stands(p, 4))
			}
		}
	}
}

// chance does one act that looks like chance, and tells its answer.
func chance(c clock, d *dice, ids int) string {
	id, at := d.upTo(ids+1), c.Now()+int64(d.upTo(12))-1
	switch d.upTo(9) {
	case 0, 1, 2:
		return pair(strconv.Itoa, errno)(c.Set(at, d.upTo(1000)))
	case 3, 4:
		return pair(strconv.Itoa, errno)(c.After(int64(d.upTo(9)), d.upTo(1000)))
	case 5:
		return pair(strconv.Itoa, strconv.FormatBool)(c.Cancel(id))
	case 6, 7:
		return errno(c.Move(id, at))
	}
	return stands(c, ids)
}

// life is all that a clock tells in a row of acts, with callbacks that act and register others.
func life(c clock, seed dice) []string {
	d := seed
	var l []string
	for range 2 {
		c.On(func(id, v int) {
			l = append(l, "called "+row([]int{id, v, int(c.Now())}))
			if d.upTo(2) == 0 {
				l = append(l, chance(c, &d, 40))
			}
			if d.upTo(20) == 0 {
				c.On(func(id, _ int) { l = append(l, "inner "+strconv.Itoa(id), stands(c, 40)) })
			}
		})
	}
	for range 60 {
		switch d.upTo(8) {
		case 0:
			l = append(l, row(c.Tick()))
		case 1:
			l = append(l, pair(row, errno)(c.Turn(int64(d.upTo(8)-1))))
		default:
			l = append(l, chance(c, &d, 40))
		}
		l = append(l, stands(c, 40))
	}
	return l
}

// P14.1 to P14.5: lives that look like chance, held against the plain wheel's.
func TestLives(t *testing.T) {
	for seed := range 300 {
		got, want := life(timers.New[int](), dice(seed)), life(&plain{}, dice(seed))
		for i := range want {
			if i >= len(got) || got[i] != want[i] {
				t.Fatalf("seed %d, at %d: %q instead of %q", seed, i, got[i:min(i+1, len(got))], want[i])
			}
		}
		if len(got) != len(want) {
			t.Fatalf("seed %d: %d answers instead of %d", seed, len(got), len(want))
		}
	}
}

// fallen is a timer that fell due, and when.
type fallen struct {
	id int
	at int64
}

// portions turns a wheel, into which the same was set, to tick 64 in portions, and tells what fell due.
func portions(t *testing.T, seed dice, portion func() int64) []fallen {
	t.Helper()
	w := timers.New[int]()
	d := seed
	var l []fallen
	var dues []int64
	for range 50 {
		at := int64(1 + d.upTo(64))
		id, _ := w.Set(at, int(at))
		if id%5 == 0 {
			at = int64(1 + d.upTo(64))
			w.Move(id, at)
		}
		dues = append(dues, at)
	}
	for range 5 {
		id := d.upTo(50)
		w.Cancel(id)
		dues[id] = 0
	}
	w.On(func(id, _ int) { l = append(l, fallen{id, w.Now()}) })
	for w.Now() < 64 {
		n := min(portion(), 64-w.Now())
		ahead, from := w.Now(), len(l)
		if n == 1 {
			w.Tick()
		} else {
			w.Turn(n)
		}
		for _, x := range l[from:] {
			if x.at <= ahead || x.at > w.Now() || x.at != dues[x.id] {
				t.Fatalf("seed %d: %v fell due between %d and %d, set for %d", seed, x, ahead, w.Now(), dues[x.id])
			}
		}
	}
	once(t, l, dues)
	return l
}

// once fails if not each timer that was not cancelled fell due just once.
func once(t *testing.T, l []fallen, dues []int64) {
	t.Helper()
	times := make([]int, len(dues))
	for _, x := range l {
		times[x.id]++
	}
	for id, n := range times {
		if n != 0 != (dues[id] != 0) || n > 1 {
			t.Fatalf("timer %d, set for %d, fell due %d times", id, dues[id], n)
		}
	}
}

// P14.7, P14.8: in whatever portions a wheel is turned, the same falls due, each once, at its tick, by rising ticks.
func TestPortions(t *testing.T) {
	for seed := range 100 {
		d := dice(seed)
		whole := portions(t, d, func() int64 { return 64 })
		if !slices.IsSortedFunc(whole, func(a, b fallen) int { return int(a.at - b.at) }) {
			t.Fatalf("seed %d: %v", seed, whole)
		}
		for name, portion := range map[string]func() int64{
			"ticks":    func() int64 { return 1 },
			"threes":   func() int64 { return 3 },
			"portions": func() int64 { return int64(d.upTo(9)) },
		} {
			if l := portions(t, dice(seed), portion); !slices.Equal(l, whole) {
				t.Fatalf("seed %d, by %s: %v instead of %v", seed, name, l, whole)
			}
		}
	}
}

// P14.8: what Turn tells stands by rising ticks, also of what is set, moved and cancelled while it turns.
func TestRising(t *testing.T) {
	for seed := range 300 {
		w, d := timers.New[int](), dice(seed)
		var at []int64
		w.On(func(int, int) {
			at = append(at, w.Now())
			chance(w, &d, 40)
		})
		for range 30 {
			chance(w, &d, 40)
		}
		l, why := w.Turn(100)
		if why != api.OK || len(l) != len(at) || !slices.IsSorted(at) {
			t.Fatalf("seed %d: Turn %v, %d, at %v", seed, l, why, at)
		}
	}
}

// P14.9: Len is what was set and neither fell due nor was cancelled; Next is the Due of one, and no Due is less.
func TestCounts(t *testing.T) {
	for seed := range 200 {
		w, d := timers.New[int](), dice(seed)
		set, gone, ids := 0, 0, 0
		for range 80 {
			switch d.upTo(6) {
			case 0, 1, 2:
				if id, why := w.After(int64(1+d.upTo(20)), 0); why == api.OK {
					set, ids = set+1, id+1
				}
			case 3:
				if _, ok := w.Cancel(d.upTo(ids + 1)); ok {
					gone++
				}
			case 4:
				w.Move(d.upTo(ids+1), w.Now()+int64(d.upTo(20)))
			default:
				l, _ := w.Turn(int64(d.upTo(4)))
				gone += len(l)
			}
			if w.Len() != set-gone {
				t.Fatalf("seed %d: Len %d of %d set, %d gone", seed, w.Len(), set, gone)
			}
			leastHolds(t, w, ids)
		}
	}
}

// leastHolds fails if Next is not the least Due of the ids below ids.
func leastHolds(t *testing.T, w *timers.Wheel[int], ids int) {
	t.Helper()
	var dues []int64
	for id := range ids {
		if at, ok := w.Due(id); ok {
			dues = append(dues, at)
		}
	}
	next, ok := w.Next()
	if ok != (len(dues) > 0) || len(dues) != w.Len() {
		t.Fatalf("Next %d, %t, Len %d of %v", next, ok, w.Len(), dues)
	}
	if ok && next != slices.Min(dues) || !ok && next != 0 {
		t.Fatalf("Next %d of %v", next, dues)
	}
}
