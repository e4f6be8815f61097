// Package keep is layer 4: see shared/doc/04-keep.md.
package keep

import (
	"cmp"
	"iter"
)

// Map is keys in order, and what they have; it is never changed.
type Map[K cmp.Ordered, V any] struct {
	root *node[K, V]
}

// Put: P4.1.
func (m Map[K, V]) Put(k K, v V) Map[K, V] {
	return Map[K, V]{put(m.root, entry[K, V]{k, v})}
}

// Drop: P4.1.
func (m Map[K, V]) Drop(k K) Map[K, V] {
	if find(m.root, k) == nil {
		return m
	}
	return Map[K, V]{drop(m.root, k)}
}

// Get: P4.1.
func (m Map[K, V]) Get(k K) (V, bool) {
	_, v, ok := told(find(m.root, k))
	return v, ok
}

// Len: P4.1.
func (m Map[K, V]) Len() int {
	return size(m.root)
}

// At: P4.2.
func (m Map[K, V]) At(i int) (K, V, bool) {
	n := m.root
	for n != nil && i != size(n.left) {
		if i < size(n.left) {
			n = n.left
		} else {
			n, i = n.right, i-size(n.left)-1
		}
	}
	return told(n)
}

// Rank: P4.2.
func (m Map[K, V]) Rank(k K) int {
	below := 0
	for n := m.root; n != nil; {
		if cmp.Less(n.key, k) {
			below += size(n.left) + 1
			n = n.right
		} else {
			n = n.left
		}
	}
	return below
}

// Floor: P4.2.
func (m Map[K, V]) Floor(k K) (K, V, bool) {
	if n := find(m.root, k); n != nil {
		return told(n)
	}
	return m.At(m.Rank(k) - 1)
}

// Ceil: P4.2.
func (m Map[K, V]) Ceil(k K) (K, V, bool) {
	return m.At(m.Rank(k))
}

// All: P4.2.
func (m Map[K, V]) All() iter.Seq2[K, V] {
	return func(yield func(K, V) bool) {
		walk(m.root, yield)
	}
}

// Depth: P4.3.
func (m Map[K, V]) Depth() int {
	return height(m.root)
}

// Merge: P4.4.
func Merge[K cmp.Ordered, V any](a, b Map[K, V], how func(x, y V) V) Map[K, V] {
	if how == nil { // nobody says how: what stands ahead stays
		how = func(x, _ V) V { return x }
	}
	return Map[K, V]{merge(a.root, b.root, how)}
}

// told is a node's key and value, and true; false of nil.
func told[K cmp.Ordered, V any](n *node[K, V]) (K, V, bool) {
	if n == nil {
		var none entry[K, V]
		return none.key, none.value, false
	}
	return n.key, n.value, true
}
