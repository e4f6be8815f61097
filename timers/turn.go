package timers

import "escrow/api"

// Tick: P14.3.
func (w *Wheel[T]) Tick() []T {
	l, _ := w.Turn(1) // refused at the greatest tick, and of a nil Wheel
	return l
}

// Turn: P14.4. While it turns it is refused: what is called when a timer falls due may not turn the wheel, and could do it without end.
func (w *Wheel[T]) Turn(n int64) ([]T, api.Errno) {
	switch {
	case w == nil:
		return nil, api.ErrNone
	case n < 0 || w.tooFar(n) || w.turning:
		return nil, api.ErrArg
	}
	w.turning = true
	defer func() { w.turning = false }()
	end := w.now + n
	var l []T
	for at, ok := w.Next(); ok && at <= end; at, ok = w.Next() {
		w.now = at
		l = append(l, w.fall())
	}
	w.now = end
	return l, api.OK
}

// On: P14.5.
func (w *Wheel[T]) On(f func(id int, v T)) {
	if w != nil && f != nil {
		w.calls = append(w.calls, f)
	}
}

// fall lets the first timer of all fall due. They fall one by one, each looked for anew: what is called may have taken out the next one.
func (w *Wheel[T]) fall() T {
	_, line, _ := w.ticks.At(0)
	_, id, _ := line.At(0)
	t := w.timers[id]
	w.take(id, t)
	for _, f := range w.calls { // those of now: what they register is called from the next timer on
		call(f, id, t.value)
	}
	return t.value
}

// call ends also where f panics: no call of the wheel panics, and the timers behind are to fall due all the same.
func call[T any](f func(id int, v T), id int, v T) {
	defer func() { _ = recover() }()
	f(id, v)
}
