package view_test

import (
	"slices"
	"testing"

	"escrow/api"
	"escrow/term"
	"escrow/view"
)

// P10.3: by hand, in both directions.
func TestAlike(t *testing.T) {
	for _, x := range []struct {
		who  int
		l, m string
		want bool
	}{
		{3, "", "", true}, {2, "", "", true}, {3, "#1", "", false}, {3, "#1, #1", "#1", false}, {3, "#1", "#1", true}, {2, "f0>1(#1)", "f0>1(#1)", true},
		// which names tell
		{3, "p0>1(#1)", "f0>1(#1)", true}, {15, "p0>1(#1)", "f0>1(#1)", true}, {0, "p0>1(#1)", "f0>1(#1)", false}, {1, "p0>1(#1)", "f0>1(#1)", false}, {2, "p0>1(#1)", "f0>1(#1)", false},
		{0, "p3>1(#1)", "f3>1(#1)", true}, {0, "p3>2(#1)", "f3>2(#1)", true}, {3, "p3>2(#1)", "f3>2(#1)", false},
		// each field, and what a node is made of
		{3, "p0>1(#1)", "f0>2(#1)", false}, {3, "p0>1(#1)", "f2>1(#1)", false}, {3, "p0>1(#1)", "p1>0(#1)", false}, {3, "p0>1(#1)", "f0>1(#2)", false}, {3, "p0>1(#1)", "s0(#1)", false}, {3, "p1>0(#1)", "s1(#1)", false}, {3, "f1>0(#1)", "s1(#1)", false}, {3, "p1>0(#1)", "h(#1)", false}, {3, "p0>1(p0>1(#1))", "p0>1(#1)", false},
		{3, "#1", "#2", false}, {3, "n1", "n2", false}, {3, "n1", "k1", false}, {3, "k1", "k2", false}, {3, `"a"`, `"b"`, false}, {3, `""`, "#0", false}, {3, "n0", "#0", false}, {3, `"a"`, `"a"`, true},
		{3, "s0(#1)", "s1(#1)", false}, {3, "s0(#1)", "s0(#2)", false}, {3, "h(#1)", "h(#2)", false}, {3, "h(#1)", "#1", false}, {3, "(#1 #2)", "(#2 #1)", false}, {3, "(#1 #2)", "(#1 #3)", false}, {3, "(#1 #2)", "(#3 #2)", false},
		// in other terms, hashes too
		{3, "h(p0>1(#1))", "h(f0>1(#1))", true}, {3, "s3((#1 p0>1(#1)))", "s3((#1 f0>1(#1)))", true}, {3, "p3>4(p0>1(#1))", "p3>4(f0>1(#1))", true}, {3, "p3>4(p0>1(#1))", "f3>4(f0>1(#1))", false}, {0, "p3>4(p0>1(#1))", "f3>4(p0>1(#1))", true}, {0, "p3>4(p0>1(#1))", "f3>4(f0>1(#1))", false},
		{3, "p0>1(p0>1(#1))", "f0>1(f0>1(#1))", true}, {3, "p0>1(f0>1(#1))", "f0>1(p0>1(#1))", true},
		// one corresponds to one
		{3, "p0>1(#1), p0>1(#1)", "p0>1(#1), f0>1(#1)", false}, {3, "p0>1(#1), f0>1(#1)", "f0>1(#1), p0>1(#1)", true}, {3, "p0>1(#1), p0>1(#1)", "f0>1(#1), f0>1(#1)", true}, {3, "f0>1(#1), p0>1(#1)", "f0>1(#1), f0>1(#1)", false},
		{3, "p0>1(#1), p0>1(#2)", "p0>1(#1), f0>1(#2)", true}, {3, "p0>1(#1), p1>0(#1)", "p0>1(#1), f1>0(#1)", true},
		{3, "(p0>1(#1) p0>1(#1))", "(p0>1(#1) f0>1(#1))", false}, {3, "(p0>1(#1) p0>1(#1))", "(f0>1(#1) f0>1(#1))", true}, {3, "(p0>1(#1) f0>1(#1))", "(f0>1(#1) p0>1(#1))", true},
		{3, "p0>1(#1), s0(p0>1(#1))", "f0>1(#1), s0(p0>1(#1))", false}, {3, "s0(p0>1(#1)), p0>1(#1)", "s0(f0>1(#1)), p0>1(#1)", false}, {3, "p0>1(#1), s0(p0>1(#1))", "f0>1(#1), s0(f0>1(#1))", true},
		{3, "h(p0>1(#1)), p0>1(#1)", "h(f0>1(#1)), p0>1(#1)", false}, {3, "(h(p0>1(#1)) p0>1(#1))", "(h(f0>1(#1)) p0>1(#1))", false}, {3, "(h(p0>1(#1)) p0>1(#1))", "(h(f0>1(#1)) f0>1(#1))", true},
		{3, "h(p0>1(#1)), h(p0>1(#1))", "h(p0>1(#1)), h(f0>1(#1))", false}, {3, "h(p0>1(#1)), h(f0>1(#1))", "h(f0>1(#1)), h(p0>1(#1))", true},
		{3, "p0>1(p0>1(#1)), p0>1(f0>1(#1))", "p0>1(p0>1(#1)), f0>1(f0>1(#1))", true}, {3, "p0>1(p0>1(#1)), f0>1(p0>1(#1))", "p0>1(p0>1(#1)), f0>1(f0>1(#1))", false},
		{3, "p0>1(p0>1(#1)), p0>1(f0>1(#1)), f0>1(p0>1(#1)), f0>1(f0>1(#1))", "p0>1(f0>1(#1)), f0>1(p0>1(#1)), f0>1(f0>1(#1)), p0>1(p0>1(#1))", true},
		{3, "p0>1(#1), #1, f0>1(#1), h(p0>1(#1))", "f0>1(#1), #1, p0>1(#1), h(p0>1(#1))", false},
		{3, "#1, #2, p0>1(#1)", "#2, #1, f0>1(#1)", false}, {3, "p0>1(#1), #1", "#1, p0>1(#1)", false},
	} {
		p := term.New()
		l, m := list(t, p, x.l), list(t, p, x.m)
		long := p.Len()
		if got, back := view.Alike(p, x.who, l, m), view.Alike(p, x.who, m, l); got != x.want || back != x.want {
			t.Errorf("for %d: %s and %s: %t, back %t", x.who, x.l, x.m, got, back)
		}
		if p.Len() != long {
			t.Errorf("%d terms instead of %d", p.Len(), long)
		}
	}
}

// P10.3: a nil pool, no names, what is no term in any place, and as many on both sides.
func TestAlikeNever(t *testing.T) {
	p, l := few(t)
	long := p.Len()
	for who := range api.MaxNames {
		if view.Alike(nil, who, nil, nil) || view.Alike(nil, who, l, l) || view.Alike(term.New(), who, l, l) {
			t.Errorf("for %d: of no terms' pool", who)
		}
		if !view.Alike(p, who, l, l) || !view.Alike(p, who, nil, []api.Term{}) || !view.Alike(term.New(), who, nil, nil) {
			t.Errorf("for %d: a list is not alike to itself", who)
		}
		if view.Alike(p, who, l, l[1:]) || view.Alike(p, who, l[:5], l) || view.Alike(p, who, l, nil) || view.Alike(p, who, nil, l[:1]) {
			t.Errorf("for %d: not as many", who)
		}
		for _, u := range strange(p.Len()) {
			for at := range 3 {
				m := slices.Clone(l[:3])
				m[at] = u
				if view.Alike(p, who, m, m) || view.Alike(p, who, l[:3], m) || view.Alike(p, who, m, l[:3]) {
					t.Errorf("for %d: the term %d", who, u)
				}
			}
		}
	}
	for _, who := range noNames() {
		if view.Alike(p, who, nil, nil) || view.Alike(p, who, l, l) || view.Alike(nil, who, nil, nil) {
			t.Errorf("for %d, who is none", who)
		}
	}
	still(t, p, long, nil)
}

// P10.3, P10.6: of all short lists of few terms: alike are just those in which who finds the same. To find the same is an equivalence.
func TestAlikeAll(t *testing.T) {
	p, lists := shortLists(t)
	for _, who := range []int{0, 2, 3, 5} {
		var looks []string
		for _, l := range lists {
			looks = append(looks, judgeLook(who, trees(p, l)))
		}
		for i, l := range lists {
			for j, m := range lists {
				if got := view.Alike(p, who, l, m); got != (looks[i] == looks[j]) {
					t.Fatalf("for %d: %s and %s: %t", who, shown(p, l), shown(p, m), got)
				}
			}
		}
	}
}

// P10.3, P10.6: longer lists that look like chance, alike often.
func TestAlikeAny(t *testing.T) {
	d := dice(3)
	var counts [2]int
	for range 4000 {
		p := term.New()
		var l, m []api.Term
		for range 1 + d.upTo(14) {
			l = append(l, of(t, p, anyText(&d, 4)))
		}
		who := watchers()[d.upTo(7)]
		for _, x := range flipped(&d, who, trees(p, l)) {
			m = append(m, of(t, p, spell(x)))
		}
		want := judgeLook(who, trees(p, l)) == judgeLook(who, trees(p, m))
		if got := view.Alike(p, who, l, m); got != want {
			t.Fatalf("for %d: %s and %s: %t", who, shown(p, l), shown(p, m), got)
		}
		if !slices.Equal(l, m) {
			counts[btoi(want)]++
		}
		follows(t, p, who, l, m)
	}
	if counts[0] < 100 || counts[1] < 1000 {
		t.Errorf("unlike and alike: %v", counts)
	}
}
