package keep

import "testing"

// sound answers how many keys a tree has; it fails where a node's branches, size, height or order are not as they should be.
func sound(t *testing.T, n *node[int, int], above, below int) int {
	t.Helper()
	if n == nil {
		return 0
	}
	if n.key <= above || n.key >= below {
		t.Fatalf("%d stands between %d and %d", n.key, above, below)
	}
	l, r := height(n.left), height(n.right)
	if l > r+1 || r > l+1 || n.height != max(l, r)+1 {
		t.Fatalf("height %d of branches of %d and %d", n.height, l, r)
	}
	keys := sound(t, n.left, above, n.key) + 1 + sound(t, n.right, n.key, below)
	if n.size != keys {
		t.Fatalf("size %d of %d keys", n.size, keys)
	}
	return keys
}

func soundMap(t *testing.T, m Map[int, int]) {
	t.Helper()
	sound(t, m.root, -1, 1<<20)
}

// row is a map of keys from the first one on, put in a stride that goes over all of them.
func row(first, n, stride int) Map[int, int] {
	var m Map[int, int]
	for i := range n {
		m = m.Put(first+i*stride%n, i)
	}
	return m
}

// P4.3: every map's tree is in balance, whatever it was made by.
func TestBalance(t *testing.T) {
	lengths := []int{0, 1, 2, 3, 7, 12, 33, 101}
	for _, n := range lengths {
		for _, stride := range []int{1, 5} {
			m := row(0, n, stride)
			soundMap(t, m)
			for k := range n {
				soundMap(t, m.Drop(k))
				m = m.Drop(k * stride % n)
				soundMap(t, m)
			}
		}
	}
}

// P4.3, P4.4, P4.5: so are those of two: of every length, beside, over and inside one another.
func TestBalanceOfTwo(t *testing.T) {
	for _, n := range []int{0, 1, 2, 5, 12, 33, 101, 400} {
		for _, l := range []int{0, 1, 2, 5, 12, 33, 101, 400} {
			for _, first := range []int{0, n / 2, n, n + 5} {
				a, b := row(0, n, 7), row(first, l, 3)
				soundMap(t, Merge(a, b, nil))
				soundMap(t, Merge(b, a, nil))
				sound(t, common(a.root, b.root), -1, 1<<20)
				sound(t, minus(a.root, b.root), -1, 1<<20)
				sound(t, minus(b.root, a.root), -1, 1<<20)
			}
		}
	}
}
