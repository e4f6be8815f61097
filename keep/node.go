package keep

import "cmp"

// entry is a key, and what it has.
type entry[K cmp.Ordered, V any] struct {
	key   K
	value V
}

// node is a tree of keys in order; nil is the one without keys. Its branches differ in height by at most one, in every node, so that it is never deeper than P4.3 lets it be. Maps share nodes: none is ever changed.
type node[K cmp.Ordered, V any] struct {
	entry[K, V]
	left, right  *node[K, V]
	size, height int
}

func size[K cmp.Ordered, V any](n *node[K, V]) int {
	if n == nil {
		return 0
	}
	return n.size
}

func height[K cmp.Ordered, V any](n *node[K, V]) int {
	if n == nil {
		return 0
	}
	return n.height
}

// grow is the tree of branches that differ in height by at most one.
func grow[K cmp.Ordered, V any](left *node[K, V], e entry[K, V], right *node[K, V]) *node[K, V] {
	return &node[K, V]{
		entry:  e,
		left:   left,
		right:  right,
		size:   size(left) + 1 + size(right),
		height: max(height(left), height(right)) + 1,
	}
}

// balance is the tree of branches that differ in height by at most two.
func balance[K cmp.Ordered, V any](left *node[K, V], e entry[K, V], right *node[K, V]) *node[K, V] {
	switch {
	case height(left) > height(right)+1:
		return turnRight(left, e, right)
	case height(right) > height(left)+1:
		return turnLeft(left, e, right)
	}
	return grow(left, e, right)
}

// turnRight is the tree of a left branch that is too high.
func turnRight[K cmp.Ordered, V any](left *node[K, V], e entry[K, V], right *node[K, V]) *node[K, V] {
	inner := left.right
	if height(inner) > height(left.left) {
		return grow(grow(left.left, left.entry, inner.left), inner.entry, grow(inner.right, e, right))
	}
	return grow(left.left, left.entry, grow(inner, e, right))
}

// turnLeft is the tree of a right branch that is too high.
func turnLeft[K cmp.Ordered, V any](left *node[K, V], e entry[K, V], right *node[K, V]) *node[K, V] {
	inner := right.left
	if height(inner) > height(right.right) {
		return grow(grow(left, e, inner.left), inner.entry, grow(inner.right, right.entry, right.right))
	}
	return grow(grow(left, e, inner), right.entry, right.right)
}

// join is the tree of branches of any heights: it goes down the higher one to where the lower one fits.
func join[K cmp.Ordered, V any](left *node[K, V], e entry[K, V], right *node[K, V]) *node[K, V] {
	switch {
	case height(left) > height(right)+1:
		return balance(left.left, left.entry, join(left.right, e, right))
	case height(right) > height(left)+1:
		return balance(join(left, e, right.left), right.entry, right.right)
	}
	return grow(left, e, right)
}

// glue is join with nothing between the branches.
func glue[K cmp.Ordered, V any](left, right *node[K, V]) *node[K, V] {
	if right == nil {
		return left
	}
	return join(left, first(right).entry, dropFirst(right))
}

func first[K cmp.Ordered, V any](n *node[K, V]) *node[K, V] {
	for n.left != nil {
		n = n.left
	}
	return n
}

func dropFirst[K cmp.Ordered, V any](n *node[K, V]) *node[K, V] {
	if n.left == nil {
		return n.right
	}
	return balance(dropFirst(n.left), n.entry, n.right)
}

// split is what stands below a key, the key's own node (nil, if there is none), and what stands above it.
func split[K cmp.Ordered, V any](n *node[K, V], k K) (below, own, above *node[K, V]) {
	if n == nil {
		return nil, nil, nil
	}
	switch cmp.Compare(k, n.key) {
	case -1:
		below, own, above = split(n.left, k)
		return below, own, join(above, n.entry, n.right)
	case 1:
		below, own, above = split(n.right, k)
		return join(n.left, n.entry, below), own, above
	}
	return n.left, n, n.right
}

func put[K cmp.Ordered, V any](n *node[K, V], e entry[K, V]) *node[K, V] {
	if n == nil {
		return grow(nil, e, nil)
	}
	switch cmp.Compare(e.key, n.key) {
	case -1:
		return balance(put(n.left, e), n.entry, n.right)
	case 1:
		return balance(n.left, n.entry, put(n.right, e))
	}
	return grow(n.left, e, n.right)
}

// drop takes out a key that is there.
func drop[K cmp.Ordered, V any](n *node[K, V], k K) *node[K, V] {
	switch cmp.Compare(k, n.key) {
	case -1:
		return balance(drop(n.left, k), n.entry, n.right)
	case 1:
		return balance(n.left, n.entry, drop(n.right, k))
	}
	return glue(n.left, n.right)
}

func find[K cmp.Ordered, V any](n *node[K, V], k K) *node[K, V] {
	for n != nil {
		switch cmp.Compare(k, n.key) {
		case -1:
			n = n.left
		case 1:
			n = n.right
		default:
			return n
		}
	}
	return nil
}

// walk goes over the entries until it is told to stop, and answers whether it came to the end.
func walk[K cmp.Ordered, V any](n *node[K, V], yield func(K, V) bool) bool {
	return n == nil || walk(n.left, yield) && yield(n.key, n.value) && walk(n.right, yield)
}

// merge asks how by rising keys: the branch below a key is merged ahead of it.
func merge[K cmp.Ordered, V any](a, b *node[K, V], how func(x, y V) V) *node[K, V] {
	if a == nil {
		return b
	}
	if b == nil {
		return a
	}
	below, own, above := split(b, a.key)
	left := merge(a.left, below, how)
	e := a.entry
	if own != nil {
		e.value = how(a.value, own.value)
	}
	return join(left, e, merge(a.right, above, how))
}

// common has the entries of a whose keys are in b.
func common[K cmp.Ordered, V any](a, b *node[K, V]) *node[K, V] {
	if a == nil || b == nil {
		return nil
	}
	below, own, above := split(b, a.key)
	left, right := common(a.left, below), common(a.right, above)
	if own == nil {
		return glue(left, right)
	}
	return join(left, a.entry, right)
}

// minus has the entries of a whose keys are not in b.
func minus[K cmp.Ordered, V any](a, b *node[K, V]) *node[K, V] {
	if a == nil || b == nil {
		return a
	}
	below, own, above := split(b, a.key)
	left, right := minus(a.left, below), minus(a.right, above)
	if own != nil {
		return glue(left, right)
	}
	return join(left, a.entry, right)
}
