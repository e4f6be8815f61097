package keep

// Heap is things of which the least is at hand.
type Heap[T any] struct {
	less   func(a, b T) bool
	things []pushed[T] // none is ahead of its parent: that of i is at (i-1)/2
	turns  int         // how many were pushed
}

// pushed is a thing, and how many were pushed ahead of it.
type pushed[T any] struct {
	value T
	turn  int
}

// NewHeap: P4.7.
func NewHeap[T any](less func(a, b T) bool) *Heap[T] {
	if less == nil { // nothing is less than anything
		less = func(_, _ T) bool { return false }
	}
	return &Heap[T]{less: less}
}

// Push: P4.7.
func (h *Heap[T]) Push(v T) {
	if h == nil {
		return
	}
	h.things = append(h.things, pushed[T]{v, h.turns})
	h.turns++
	h.rise(len(h.things) - 1)
}

// Pop: P4.7.
func (h *Heap[T]) Pop() (T, bool) {
	v, ok := h.Peek()
	if ok {
		last := len(h.things) - 1
		h.things[0] = h.things[last]
		h.things[last] = pushed[T]{} // what was taken out is not held any more
		h.things = h.things[:last]
		h.sink(0)
	}
	return v, ok
}

// Peek: P4.7.
func (h *Heap[T]) Peek() (T, bool) {
	if h.Len() == 0 {
		var none T
		return none, false
	}
	return h.things[0].value, true
}

// Len: P4.7.
func (h *Heap[T]) Len() int {
	if h == nil {
		return 0
	}
	return len(h.things)
}

func (h *Heap[T]) rise(i int) {
	for parent := (i - 1) / 2; i > 0 && h.ahead(i, parent); parent = (i - 1) / 2 {
		h.things[i], h.things[parent] = h.things[parent], h.things[i]
		i = parent
	}
}

func (h *Heap[T]) sink(i int) {
	for child := h.firstChild(i); child < len(h.things) && h.ahead(child, i); child = h.firstChild(i) {
		h.things[i], h.things[child] = h.things[child], h.things[i]
		i = child
	}
}

// firstChild is the place of that child which is ahead of the other; past the end, if there is none.
func (h *Heap[T]) firstChild(i int) int {
	left, right := 2*i+1, 2*i+2
	if right < len(h.things) && h.ahead(right, left) {
		return right
	}
	return left
}

// ahead is whether the thing at i is to be popped ahead of the one at j.
func (h *Heap[T]) ahead(i, j int) bool {
	a, b := h.things[i], h.things[j]
	if h.less(a.value, b.value) {
		return true
	}
	return a.turn < b.turn && !h.less(b.value, a.value)
}
