package timers_test

import (
	"math"
	"slices"
	"strconv"
	"testing"

	"escrow/api"
	"escrow/timers"
)

// dice is a row of numbers that looks like chance, the same each time.
type dice uint64

func (d *dice) upTo(n int) int {
	*d = *d*6364136223846793005 + 1442695040888963407
	return int(uint64(*d) >> 33 % uint64(n))
}

// clock is what a Wheel can do: a plain one can too.
type clock interface {
	Now() int64
	Set(at int64, v int) (int, api.Errno)
	After(n int64, v int) (int, api.Errno)
	Cancel(id int) (int, bool)
	Move(id int, at int64) api.Errno
	Due(id int) (int64, bool)
	Next() (int64, bool)
	Tick() []int
	Turn(n int64) ([]int, api.Errno)
	On(f func(id int, v int))
	Len() int
	List() []int
}

type plainTimer struct {
	id int
	at int64
	v  int
}

// plain is what a Wheel is held against: its timers lie in one list, the one that was set or moved last behind the others, and every tick looks through all of it.
type plain struct {
	now   int64
	ids   int
	l     []plainTimer
	calls []func(id int, v int)
}

func (p *plain) Now() int64 { return p.now }

func (p *plain) Len() int { return len(p.l) }

func (p *plain) Set(at int64, v int) (int, api.Errno) {
	if at <= p.now {
		return 0, api.ErrPast
	}
	if len(p.l) == api.MaxTimers {
		return 0, api.ErrMany
	}
	p.l = append(p.l, plainTimer{p.ids, at, v})
	p.ids++
	return p.ids - 1, api.OK
}

func (p *plain) After(n int64, v int) (int, api.Errno) {
	if n < 1 || p.now+n < p.now { // wrapped round
		return 0, api.ErrArg
	}
	return p.Set(p.now+n, v)
}

func (p *plain) place(id int) int {
	return slices.IndexFunc(p.l, func(t plainTimer) bool { return t.id == id })
}

func (p *plain) cut(i int) plainTimer {
	t := p.l[i]
	p.l = slices.Delete(p.l, i, i+1)
	return t
}

func (p *plain) Cancel(id int) (int, bool) {
	if p.place(id) < 0 {
		return 0, false
	}
	return p.cut(p.place(id)).v, true
}

func (p *plain) Move(id int, at int64) api.Errno {
	if p.place(id) < 0 {
		return api.ErrNone
	}
	if at <= p.now {
		return api.ErrPast
	}
	t := p.cut(p.place(id))
	p.l = append(p.l, plainTimer{id, at, t.v})
	return api.OK
}

func (p *plain) Due(id int) (int64, bool) {
	if p.place(id) < 0 {
		return 0, false
	}
	return p.l[p.place(id)].at, true
}

func (p *plain) Next() (int64, bool) {
	least := int64(math.MaxInt64)
	for _, t := range p.l {
		least = min(least, t.at)
	}
	if len(p.l) == 0 {
		return 0, false
	}
	return least, true
}

func (p *plain) Tick() []int {
	if p.now == math.MaxInt64 {
		return nil
	}
	p.now++
	var l []int
	for {
		i := slices.IndexFunc(p.l, func(t plainTimer) bool { return t.at == p.now })
		if i < 0 {
			return l
		}
		t := p.cut(i)
		l = append(l, t.v)
		for _, f := range slices.Clone(p.calls) {
			f(t.id, t.v)
		}
	}
}

func (p *plain) Turn(n int64) ([]int, api.Errno) {
	if n < 0 || p.now+n < p.now {
		return nil, api.ErrArg
	}
	var l []int
	for range n {
		l = append(l, p.Tick()...)
	}
	return l, api.OK
}

func (p *plain) On(f func(id int, v int)) {
	if f != nil {
		p.calls = append(p.calls, f)
	}
}

func (p *plain) List() []int {
	sorted := slices.Clone(p.l)
	slices.SortStableFunc(sorted, func(a, b plainTimer) int { return int(a.at - b.at) })
	var l []int
	for _, t := range sorted {
		l = append(l, t.v)
	}
	return l
}

// row is numbers as text.
func row(l []int) string {
	s := "["
	for _, n := range l {
		s += strconv.Itoa(n) + " "
	}
	return s + "]"
}

// stands tells all that a clock tells without a change, of the ids below ids too.
func stands(c clock, ids int) string {
	next, ok := c.Next()
	s := "now " + strconv.FormatInt(c.Now(), 10) + " next " + strconv.FormatInt(next, 10) + strconv.FormatBool(ok) + " len " + strconv.Itoa(c.Len()) + " " + row(c.List())
	for id := -1; id <= ids; id++ {
		at, ok := c.Due(id)
		s += " " + strconv.FormatInt(at, 10) + strconv.FormatBool(ok)
	}
	return s
}

// full is a wheel with as many timers as may be set, all for one tick, their values 0 and on.
func full(t *testing.T, at int64) *timers.Wheel[int] {
	t.Helper()
	w := timers.New[int]()
	for i := range api.MaxTimers {
		if id, why := w.Set(at, i); id != i || why != api.OK {
			t.Fatalf("Set number %d: %d, %d", i, id, why)
		}
	}
	return w
}

// refuses fails if a call that is refused changes what a wheel tells.
func refuses(t *testing.T, w *timers.Wheel[int], what string, want api.Errno, call func() api.Errno) {
	t.Helper()
	ahead := stands(w, 9)
	if why := call(); why != want {
		t.Errorf("%s: %d instead of %d", what, why, want)
	}
	if behind := stands(w, 9); behind != ahead {
		t.Errorf("%s: %s, and then %s", what, ahead, behind)
	}
}
