package keep

// Queue is things, one behind the other; it is never changed. It holds them in a map by rising numbers, so that every step from every old queue is cheap.
type Queue[T any] struct {
	things Map[int, T]
	next   int // the number of the one that is pushed next
}

// Push: P4.6.
func (q Queue[T]) Push(v T) Queue[T] {
	return Queue[T]{q.things.Put(q.next, v), q.next + 1}
}

// Pop: P4.6.
func (q Queue[T]) Pop() (T, Queue[T], bool) {
	number, v, ok := q.things.At(0)
	if !ok {
		return v, Queue[T]{}, false
	}
	return v, Queue[T]{q.things.Drop(number), q.next}, true
}

// Len: P4.6.
func (q Queue[T]) Len() int {
	return q.things.Len()
}

// List: P4.6.
func (q Queue[T]) List() []T {
	l := make([]T, 0, q.Len())
	for _, v := range q.things.All() {
		l = append(l, v)
	}
	return l
}
