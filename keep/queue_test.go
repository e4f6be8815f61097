package keep_test

import (
	"slices"
	"testing"

	"escrow/keep"
)

// queueHolds fails if q does not tell just this, and if what is behind its first thing does not.
func queueHolds(t *testing.T, q keep.Queue[int], want []int) {
	t.Helper()
	if l := q.List(); !slices.Equal(l, want) || q.Len() != len(want) {
		t.Fatalf("Len %d, List %v instead of %v", q.Len(), l, want)
	}
	v, rest, ok := q.Pop()
	if len(want) == 0 {
		if v != 0 || ok || rest.Len() != 0 || len(rest.List()) != 0 {
			t.Fatalf("popped of none: %d, %v, %t", v, rest.List(), ok)
		}
		return
	}
	if v != want[0] || !ok || rest.Len() != len(want)-1 || !slices.Equal(rest.List(), want[1:]) {
		t.Fatalf("popped of %v: %d, %v, %t", want, v, rest.List(), ok)
	}
}

// P4.6: the zero queue is empty; the first that was pushed is the first that is popped.
func TestQueue(t *testing.T) {
	var q keep.Queue[int]
	queueHolds(t, q, nil)
	var want []int
	for i := range 20 {
		q, want = q.Push(i*i), append(want, i*i)
		queueHolds(t, q, want)
	}
	for len(want) > 0 {
		_, q, _ = q.Pop()
		want = want[1:]
		queueHolds(t, q, want)
	}
	_, q, _ = q.Pop()
	queueHolds(t, q, nil)
	queueHolds(t, q.Push(7).Push(8), []int{7, 8})
}

// P4.6, P4.9: all rows of pushes and pops, each from one queue, so that every queue is gone on from twice and more.
func TestQueueRows(t *testing.T) {
	var all func(q keep.Queue[int], want []int, left int)
	all = func(q keep.Queue[int], want []int, left int) {
		queueHolds(t, q, want)
		if left == 0 {
			return
		}
		all(q.Push(left), append(slices.Clone(want), left), left-1)
		all(q.Push(-left), append(slices.Clone(want), -left), left-1)
		_, rest, _ := q.Pop()
		all(rest, want[min(1, len(want)):], left-1)
		queueHolds(t, q, want)
	}
	all(keep.Queue[int]{}, nil, 8)
}

// P4.6, P4.9: queues of any age are gone on from; each tells, when all are made, what it told.
func TestQueueVersions(t *testing.T) {
	d := dice(6)
	queues, lists := []keep.Queue[int]{{}}, [][]int{nil}
	for i := range 2000 {
		old := max(0, len(queues)-1-d.upTo(20))
		q, l := queues[old].Push(i), append(slices.Clone(lists[old]), i)
		if d.upTo(5) < 2 {
			_, q, _ = queues[old].Pop()
			l = lists[old][min(1, len(lists[old])):]
		}
		queues, lists = append(queues, q), append(lists, l)
	}
	for i := range queues {
		queueHolds(t, queues[i], lists[i])
	}
}

// P4.6: a great queue, popped again and again from one old state, which is as quick as from a new one.
func TestQueueGreat(t *testing.T) {
	const n = 50000
	var q keep.Queue[int]
	for i := range n {
		q = q.Push(i)
	}
	for range n {
		if v, rest, ok := q.Pop(); v != 0 || !ok || rest.Len() != n-1 {
			t.Fatalf("popped %d, %t, %d are left", v, ok, rest.Len())
		}
	}
	for i := range n {
		v, rest, ok := q.Pop()
		if v != i || !ok {
			t.Fatalf("popped %d, %t instead of %d", v, ok, i)
		}
		q = rest
	}
	queueHolds(t, q, nil)
}

// P4.6, Rule 3: things may be of any kind, also alike; each list that is told is new.
func TestQueueThings(t *testing.T) {
	var q keep.Queue[string]
	q = q.Push("a").Push("").Push("a")
	l := q.List()
	l[1] = "b"
	_ = append(l[:0], "c", "c", "c", "c")
	if again := q.List(); !slices.Equal(again, []string{"a", "", "a"}) {
		t.Errorf("List %q", again)
	}
	_, q, _ = q.Pop()
	if v, rest, ok := q.Pop(); v != "" || !ok || rest.Len() != 1 {
		t.Errorf("popped %q, %t", v, ok)
	}
	var f keep.Queue[func() int]
	if v, _, ok := f.Pop(); v != nil || ok {
		t.Error("popped of none")
	}
	if v, _, ok := f.Push(func() int { return 3 }).Pop(); !ok || v() != 3 {
		t.Error("no function")
	}
}
