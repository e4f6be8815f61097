package keep

const noNumber = -1

// Intern gives things numbers.
type Intern[T comparable] struct {
	numbers map[T]int
	things  []T
}

// NewIntern: P4.8.
func NewIntern[T comparable]() *Intern[T] {
	return &Intern[T]{numbers: map[T]int{}}
}

// Of: P4.8.
func (n *Intern[T]) Of(v T) int {
	if n == nil {
		return noNumber
	}
	number, has, may := n.look(v)
	switch {
	case has:
		return number
	case !may:
		return noNumber
	}
	number = len(n.things)
	n.numbers[v] = number
	n.things = append(n.things, v)
	return number
}

// Find: P4.8.
func (n *Intern[T]) Find(v T) (int, bool) {
	if n == nil {
		return 0, false
	}
	number, has, _ := n.look(v)
	return number, has
}

// Value: P4.8.
func (n *Intern[T]) Value(i int) (T, bool) {
	if i < 0 || i >= n.Len() {
		var none T
		return none, false
	}
	return n.things[i], true
}

// Len: P4.8.
func (n *Intern[T]) Len() int {
	if n == nil {
		return 0
	}
	return len(n.things)
}

// look is a thing's number, if it has one, and whether it may have one: the map panics at what cannot be compared after all (a list in an interface).
func (n *Intern[T]) look(v T) (number int, has, may bool) {
	defer func() {
		_ = recover()
	}()
	number, has = n.numbers[v]
	return number, has, true
}
