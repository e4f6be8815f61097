package keep

import "cmp"

// Set is keys; it is never changed.
type Set[K cmp.Ordered] struct {
	keys Map[K, struct{}]
}

// SetOf: P4.5.
func SetOf[K cmp.Ordered](l ...K) Set[K] {
	var s Set[K]
	for _, k := range l {
		s = s.Add(k)
	}
	return s
}

// Add: P4.5.
func (s Set[K]) Add(k K) Set[K] {
	return Set[K]{s.keys.Put(k, struct{}{})}
}

// Drop: P4.5.
func (s Set[K]) Drop(k K) Set[K] {
	return Set[K]{s.keys.Drop(k)}
}

// Has: P4.5.
func (s Set[K]) Has(k K) bool {
	_, ok := s.keys.Get(k)
	return ok
}

// Len: P4.5.
func (s Set[K]) Len() int {
	return s.keys.Len()
}

// List: P4.5.
func (s Set[K]) List() []K {
	l := make([]K, 0, s.Len())
	for k := range s.keys.All() {
		l = append(l, k)
	}
	return l
}

// Or: P4.5.
func (s Set[K]) Or(t Set[K]) Set[K] {
	return Set[K]{Merge(s.keys, t.keys, nil)}
}

// And: P4.5.
func (s Set[K]) And(t Set[K]) Set[K] {
	return Set[K]{Map[K, struct{}]{common(s.keys.root, t.keys.root)}}
}

// Minus: P4.5.
func (s Set[K]) Minus(t Set[K]) Set[K] {
	return Set[K]{Map[K, struct{}]{minus(s.keys.root, t.keys.root)}}
}

// Within: P4.5.
func (s Set[K]) Within(t Set[K]) bool {
	for k := range s.keys.All() {
		if !t.Has(k) {
			return false
		}
	}
	return true
}
