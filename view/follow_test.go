package view_test

import (
	"slices"
	"testing"

	"escrow/api"
	"escrow/speak"
	"escrow/term"
	"escrow/view"
)

// follows fails if two lists are alike, and not so back, or not in a beginning, or their frames are not the same.
func follows(t *testing.T, p *term.Pool, who int, l, m []api.Term) {
	t.Helper()
	if !view.Alike(p, who, l, l) || !view.Alike(p, who, m, m) {
		t.Fatalf("for %d: not alike to itself: %s or %s", who, shown(p, l), shown(p, m))
	}
	alike := view.Alike(p, who, l, m)
	if view.Alike(p, who, m, l) != alike {
		t.Fatalf("for %d: %s and %s: alike on one side", who, shown(p, l), shown(p, m))
	}
	if !alike {
		return
	}
	for n := range l {
		if !view.Alike(p, who, l[:n], m[:n]) {
			t.Fatalf("for %d: %s and %s: not alike up to %d", who, shown(p, l), shown(p, m), n)
		}
	}
	a, why := view.Frame(p, who, l)
	b, again := view.Frame(p, who, m)
	if !slices.Equal(a, b) || why != api.OK || again != api.OK {
		t.Fatalf("for %d: %s and %s: %s and %s", who, shown(p, l), shown(p, m), shown(p, a), shown(p, b))
	}
}

// P10.6: reflexive, symmetric, transitive; alike in each beginning, with the same frame: of all short lists of few terms, gathered into rows of those that are alike.
func TestEquivalence(t *testing.T) {
	p, lists := shortLists(t)
	for _, who := range watchers() {
		var rows [][][]api.Term
		for _, l := range lists {
			at := slices.IndexFunc(rows, func(row [][]api.Term) bool { return view.Alike(p, who, row[0], l) })
			if at < 0 {
				rows = append(rows, [][]api.Term{l})
				continue
			}
			rows[at] = append(rows[at], l)
		}
		for i, row := range rows {
			for _, l := range row {
				for _, m := range row {
					if !view.Alike(p, who, l, m) {
						t.Fatalf("for %d: %s and %s are alike to %s, and not to one another", who, shown(p, l), shown(p, m), shown(p, row[0]))
					}
					follows(t, p, who, l, m)
				}
				for _, other := range rows[i+1:] {
					if view.Alike(p, who, l, other[0]) {
						t.Fatalf("for %d: %s is alike to %s, which is not alike to %s", who, shown(p, l), shown(p, other[0]), shown(p, row[0]))
					}
				}
			}
		}
		if who == api.Notary && len(rows) != len(lists) || who == 5 && len(rows) == len(lists) {
			t.Errorf("for %d: %d rows of %d lists", who, len(rows), len(lists))
		}
	}
}

// P10.7: the notary takes just the same lists for alike.
func TestNotaryTellsAll(t *testing.T) {
	p, lists := shortLists(t)
	for _, l := range lists {
		for _, m := range lists {
			if got := view.Alike(p, api.Notary, l, m); got != slices.Equal(l, m) {
				t.Fatalf("%s and %s: %t", shown(p, l), shown(p, m), got)
			}
		}
	}
	d := dice(4)
	for range 1000 {
		q := term.New()
		l := []api.Term{of(t, q, anyText(&d, 5)), of(t, q, anyText(&d, 5))}
		var m []api.Term
		for _, x := range flipped(&d, 14, trees(q, l)) {
			m = append(m, of(t, q, spell(x)))
		}
		if got := view.Alike(q, api.Notary, l, m); got != slices.Equal(l, m) {
			t.Fatalf("%s and %s: %t", shown(q, l), shown(q, m), got)
		}
		if views, why := view.Frame(q, api.Notary, m); !slices.Equal(views, m) || why != api.OK {
			t.Fatalf("the notary's views of %s: %s", shown(q, m), shown(q, views))
		}
	}
}

// twins is whether a promise and a fake that who does not tell have one view.
func twins(who int, x api.Tree) bool {
	met := map[string]int{}
	for _, y := range all(x) {
		if hidden(who, y) {
			s := spell(judgeView(who, y))
			if met[s] != 0 && met[s] != y.Kind {
				return true
			}
			met[s] = y.Kind
		}
	}
	return false
}

// P10.8: a view's view is itself, and alike to what it is the view of, where no two in it have become one.
func TestOnceIsEnough(t *testing.T) {
	d := dice(5)
	var counts [2]int
	for range 300 {
		p, l := few(t)
		for range 20 {
			l = append(l, of(t, p, anyText(&d, 5)))
		}
		for _, who := range watchers() {
			for _, u := range l {
				v, why := view.View(p, who, u)
				w, again := view.View(p, who, v)
				if w != v || why != api.OK || again != api.OK {
					t.Fatalf("for %d: %s, %s, %s", who, shown(p, []api.Term{u}), shown(p, []api.Term{v}), shown(p, []api.Term{w}))
				}
				twin := twins(who, p.Tree(u))
				if alike := view.Alike(p, who, []api.Term{u}, []api.Term{v}); !twin && !alike {
					t.Fatalf("for %d: %s and its view %s: %t", who, speak.Print(p, u), speak.Print(p, v), alike)
				}
				counts[btoi(twin)]++
			}
		}
	}
	if counts[0] < 1000 || counts[1] < 1000 {
		t.Errorf("without and with twins: %v", counts)
	}
}

// P10.9: what was swapped is alike to what it was for all but whom it was promised to, the notary and those who promised; and no promise to that name is left.
func TestAbuseFree(t *testing.T) {
	d := dice(6)
	swapped := 0
	for range 300 {
		p, l := few(t)
		for range 20 {
			l = append(l, of(t, p, anyText(&d, 5)))
		}
		for _, to := range []int{0, 1, 2, 3} {
			for _, u := range l {
				v, why := view.Swap(p, to, u)
				if left := view.Promises(p, to, v); len(left) != 0 || why != api.OK {
					t.Fatalf("to %d in %s: error %d, left are %s", to, speak.Print(p, u), why, shown(p, left))
				}
				if !slices.ContainsFunc(all(p.Tree(u)), func(x api.Tree) bool { return x.Kind == 9 && x.To == to }) {
					abuseFree(t, p, to, u, v)
					swapped += btoi(u != v)
				}
			}
		}
	}
	if swapped < 1000 {
		t.Errorf("just %d terms in which something was swapped", swapped)
	}
}

// abuseFree fails if a term without fakes to that name can be told from the swapped one by whoever should not, or is not told by one who should.
func abuseFree(t *testing.T, p *term.Pool, to int, u, v api.Term) {
	t.Helper()
	knows := []int{to, api.Notary}
	for _, x := range view.Promises(p, to, u) {
		n, _ := p.Node(x)
		knows = append(knows, n.From)
	}
	for who := range api.MaxNames {
		want := u == v || !slices.Contains(knows, who)
		if got := view.Alike(p, who, []api.Term{u}, []api.Term{v}); got != want {
			t.Fatalf("for %d: %s and, swapped to %d, %s: %t", who, speak.Print(p, u), to, speak.Print(p, v), got)
		}
	}
}
