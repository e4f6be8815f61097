package view_test

import (
	"slices"
	"strings"
	"testing"

	"escrow/api"
	"escrow/speak"
	"escrow/term"
	"escrow/view"
)

// P10.1: promises and fakes alone are told, by their giver, by whom they are to, and by the notary.
func TestTells(t *testing.T) {
	p := term.New()
	for text, who := range map[string][]int{
		"p0>1(#1)": {0, 1, 2}, "f0>1(#1)": {0, 1, 2}, "p1>0(#1)": {0, 1, 2}, "f5>9(#1)": {5, 9, 2}, "p15>14(k3)": {15, 14, 2}, "p2>3(#1)": {2, 3}, "f3>2(#1)": {2, 3},
		"p0>1(p3>4(#1))": {0, 1, 2}, "f3>4(p0>1(#1))": {3, 4, 2},
		"n0": {}, "#0": {}, `"p"`: {}, "k0": {}, "(p0>1(#1) f0>1(#1))": {}, "h(p0>1(#1))": {}, "s0(p0>1(#1))": {}, "s2(#1)": {},
	} {
		u := of(t, p, text)
		long := p.Len()
		for name := range api.MaxNames {
			if got := view.Tells(p, name, u); got != slices.Contains(who, name) {
				t.Errorf("%d, %s: %t", name, text, got)
			}
		}
		for _, name := range noNames() {
			if view.Tells(p, name, u) {
				t.Errorf("%d tells %s", name, text)
			}
		}
		if p.Len() != long {
			t.Errorf("%s: %d terms instead of %d", text, p.Len(), long)
		}
	}
}

// P10.1: of what is no term nobody tells anything.
func TestTellsNone(t *testing.T) {
	p, _ := few(t)
	for _, name := range append(noNames(), watchers()...) {
		for _, u := range strange(p.Len()) {
			if view.Tells(p, name, u) || view.Tells(nil, name, u) {
				t.Errorf("%d tells %d", name, u)
			}
		}
		for u := api.Term(1); u < 5; u++ {
			if view.Tells(nil, name, u) || view.Tells(term.New(), name, u) {
				t.Errorf("%d tells %d of no pool", name, u)
			}
		}
	}
}

// P10.2: by hand.
func TestView(t *testing.T) {
	for _, x := range []struct {
		who        int
		text, want string
	}{
		{0, "f0>1(#1)", "f0>1(#1)"}, {1, "f0>1(#1)", "f0>1(#1)"}, {2, "f0>1(#1)", "f0>1(#1)"}, {3, "f0>1(#1)", "p0>1(#1)"}, {15, "f0>1(#1)", "p0>1(#1)"},
		{3, "p0>1(#1)", "p0>1(#1)"}, {0, "p0>1(#1)", "p0>1(#1)"},
		{0, "f3>1(#1)", "p3>1(#1)"}, {1, "f3>1(#1)", "f3>1(#1)"}, {3, "f3>1(#1)", "f3>1(#1)"}, {2, "f3>1(#1)", "f3>1(#1)"},
		{3, "f0>2(#1)", "p0>2(#1)"}, {3, "f2>0(#1)", "p2>0(#1)"}, // of the notary or to it: others are veiled all the same
		{3, "n3", "n3"}, {3, "#9", "#9"}, {3, `"f"`, `"f"`}, {3, "k3", "k3"},
		{3, "h(f0>1(#1))", "h(p0>1(#1))"}, {3, "s3(f0>1(#1))", "s3(p0>1(#1))"}, {3, "(f0>1(#1) f3>0(#1))", "(p0>1(#1) f3>0(#1))"},
		{3, "f3>4(f0>1(#1))", "f3>4(p0>1(#1))"}, {3, "f0>1(f3>4(#1))", "p0>1(f3>4(#1))"}, {3, "p3>4(f0>1(#1))", "p3>4(p0>1(#1))"}, {3, "p0>1(f1>0(f4>3(f0>4(#1))))", "p0>1(p1>0(f4>3(p0>4(#1))))"},
		{0, "(f1>3(#1) (f3>1(#1) h(s1(f1>4(k0)))))", "(p1>3(#1) (p3>1(#1) h(s1(p1>4(k0)))))"},
		{2, "(f1>3(#1) (f3>1(#1) h(s1(f1>4(k0)))))", "(f1>3(#1) (f3>1(#1) h(s1(f1>4(k0)))))"},
	} {
		p := term.New()
		u := of(t, p, x.text)
		for range 2 { // what was made is there the second time
			makes(t, p, x.text, x.want)(view.View(p, x.who, u))
		}
	}
}

// P10.2, P10.4: all views of few terms and of many that look like chance, and nothing made but what stands in them.
func TestViewAny(t *testing.T) {
	d := dice(1)
	for range 150 {
		p, l := few(t)
		for range 20 {
			l = append(l, of(t, p, anyText(&d, 5)))
		}
		was := trees(p, l)
		may := map[api.Term]struct{}{}
		for u := range p.Len() {
			may[api.Term(u+1)] = struct{}{}
		}
		for _, who := range watchers() {
			for i, u := range l {
				v, why := view.View(p, who, u)
				makes(t, p, speak.Print(p, u), spell(judgeView(who, was[i])))(v, why)
				for w := range p.Subs(v) {
					may[w] = struct{}{}
				}
			}
			views, why := view.Frame(p, who, l)
			if got, want := shown(p, views), spellAll(judgeFrame(who, was)); got != want || why != api.OK {
				t.Fatalf("for %d: %s, error %d instead of %s", who, got, why, want)
			}
			classes(t, p, who, l)
		}
		if p.Len() != len(may) {
			t.Fatalf("%d terms instead of %d", p.Len(), len(may))
		}
	}
}

// classes fails if Classes does not tell for each the first whose view has the same text.
func classes(t *testing.T, p *term.Pool, who int, l []api.Term) {
	t.Helper()
	var texts []string
	var want []int
	for _, x := range trees(p, l) {
		texts = append(texts, spell(judgeView(who, x)))
		want = append(want, slices.Index(texts, texts[len(texts)-1]))
	}
	if got, why := view.Classes(p, who, l); !slices.Equal(got, want) || why != api.OK {
		t.Fatalf("for %d of %s: %v, error %d instead of %v", who, shown(p, l), got, why, want)
	}
}

// P10.4: by hand, the document's example first; of no terms there are no classes.
func TestClasses(t *testing.T) {
	for _, x := range []struct {
		who  int
		l    string
		want []int
	}{
		{3, "p0>1(#1), #1, f0>1(#1)", []int{0, 1, 0}}, {3, "f0>1(#1), #1, p0>1(#1)", []int{0, 1, 0}}, {1, "p0>1(#1), #1, f0>1(#1)", []int{0, 1, 2}}, {2, "p0>1(#1), f0>1(#1)", []int{0, 1}},
		{3, "", nil}, {3, "#1", []int{0}}, {2, "#1, #1, #2, #2, #1", []int{0, 0, 2, 2, 0}},
		{3, "h(f0>1(#1)), f0>1(#1), h(p0>1(#1)), p0>1(#1), f0>1(#2), h(f0>1(#1))", []int{0, 1, 0, 1, 4, 0}},
		{3, "p0>1(p1>0(#1)), f0>1(f1>0(#1)), p0>1(f1>0(#1)), f0>1(p1>0(#1))", []int{0, 0, 0, 0}},
		{3, "p0>3(p1>0(#1)), f0>3(f1>0(#1)), p0>3(f1>0(#1)), f0>3(p1>0(#1))", []int{0, 1, 0, 1}},
		{3, "p0>1(#1), p1>0(#1), f0>1(#1), f1>0(#1), p0>4(#1)", []int{0, 1, 0, 1, 4}},
	} {
		p := term.New()
		if got, why := view.Classes(p, x.who, list(t, p, x.l)); !slices.Equal(got, x.want) || why != api.OK {
			t.Errorf("for %d of %s: %v, error %d instead of %v", x.who, x.l, got, why, x.want)
		}
	}
}

// P10.2, P10.4, P10.5: the errors, the first of several, and nothing made.
func TestRefused(t *testing.T) {
	full, none := term.New(), term.New()
	p, l := few(t)
	was := trees(p, l[:2])
	long := p.Len()
	full, _ = filled(t, "f0>1(#1)", 0)
	for _, u := range append(strange(p.Len()), 1, 2) {
		for _, name := range append(noNames(), watchers()...) {
			refused(t, "View of a nil pool", api.ErrNone)(view.View(nil, name, u))
			refused(t, "Swap of a nil pool", api.ErrNone)(view.Swap(nil, name, u))
			refusedAll(t, nil, name, []api.Term{u}, api.ErrNone)
			refusedAll(t, nil, name, nil, api.ErrNone)
		}
		for _, name := range noNames() {
			refused(t, "View for none", api.ErrName)(view.View(p, name, u))
			refused(t, "Swap to none", api.ErrName)(view.Swap(p, name, u))
			refusedAll(t, p, name, []api.Term{1, u}, api.ErrName)
			refusedAll(t, p, name, nil, api.ErrName)
		}
		for name := range api.MaxNames {
			refused(t, "View in an empty pool", api.ErrTerm)(view.View(none, name, u))
			refused(t, "Swap in an empty pool", api.ErrTerm)(view.Swap(none, name, u))
			refusedAll(t, none, name, []api.Term{u}, api.ErrTerm)
		}
	}
	for _, q := range []*term.Pool{p, full} {
		long := q.Len()
		for _, u := range strange(q.Len()) {
			for name := range api.MaxNames {
				refused(t, "View of none", api.ErrTerm)(view.View(q, name, u))
				refused(t, "Swap of none", api.ErrTerm)(view.Swap(q, name, u))
				refusedAll(t, q, name, []api.Term{u}, api.ErrTerm)
				refusedAll(t, q, name, []api.Term{1, 2, u, 2}, api.ErrTerm)
				refusedAll(t, q, name, []api.Term{2, 2, 2, u}, api.ErrTerm)
			}
		}
		if q.Len() != long {
			t.Errorf("%d terms instead of %d", q.Len(), long)
		}
	}
	still(t, p, long, was)
	still(t, none, 0, nil)
}

// P10.2: a number that is no term at the call stays none, also where a view would make the term of that number; and no view is made.
func TestFrameAhead(t *testing.T) {
	for _, texts := range []string{"f0>1(#1)", "h(f0>1(#1))", "f0>1(#1), (f0>1(#2) #3)"} {
		p := term.New()
		l := list(t, p, texts)
		long := p.Len()
		for next := 1; next < 5; next++ {
			u := api.Term(long + next)
			refusedAll(t, p, 3, append(slices.Clone(l), u), api.ErrTerm)
			refusedAll(t, p, 3, append([]api.Term{u}, l...), api.ErrTerm)
		}
		still(t, p, long, nil)
		if _, why := view.Frame(p, 3, l); why != api.OK || p.Len() == long {
			t.Errorf("%s: error %d, %d terms", texts, why, p.Len())
		}
	}
}

// P10.2, P10.4, P10.5: a pool without room: what is there is answered, what is not is ErrMany, and what was there stays.
func TestNoRoom(t *testing.T) {
	const texts = "f0>1(#1), p0>1(#1), f1>0(f0>1(#1)), (f0>1(#1) #1)" // the view of each of the last two lacks a term
	for room := range 3 {
		for i, lacks := range []int{0, 0, 1, 1} {
			p, l := filled(t, texts, room)
			was := trees(p, []api.Term{1, 2, 3, 4, 5, 6})
			long := p.Len()
			if room >= lacks {
				makes(t, p, texts, spell(judgeView(3, p.Tree(l[i]))))(view.View(p, 3, l[i]))
				still(t, p, long+lacks, was)
				continue
			}
			for range 2 {
				refused(t, "View without room", api.ErrMany)(view.View(p, 3, l[i]))
				refused(t, "View of none without room", api.ErrTerm)(view.View(p, 3, api.Term(long+1)))
				refusedAll(t, p, 3, []api.Term{l[0], l[i]}, api.ErrMany)
				refusedAll(t, p, 3, []api.Term{l[i], l[0]}, api.ErrMany)
				refusedAll(t, p, 3, []api.Term{l[i], l[0], api.Term(long + 1)}, api.ErrTerm)
			}
			makes(t, p, texts, speak.Print(p, l[i]))(view.View(p, 1, l[i]))
			still(t, p, long, was)
		}
	}
	for room := range 4 { // in one list the room is for all
		p, l := filled(t, texts, room)
		views, why := view.Frame(p, 3, l)
		switch {
		case room < 2 && (why != api.ErrMany || len(views) != 0):
			t.Errorf("room %d: %s, error %d", room, shown(p, views), why)
		case room >= 2 && (why != api.OK || shown(p, views) != "p0>1(#1), p0>1(#1), p1>0(p0>1(#1)), (p0>1(#1) #1)"):
			t.Errorf("room %d: %s, error %d", room, shown(p, views), why)
		}
	}
}

// P10.2, P10.5: the largest and the deepest terms.
func TestLargest(t *testing.T) {
	for _, x := range []struct{ text, seen, swapped string }{
		{broad(10, "f0>1(#1)"), broad(10, "p0>1(#1)"), broad(10, "f0>1(#1)")},
		{broad(10, "p0>1(#1)"), broad(10, "p0>1(#1)"), broad(10, "f0>1(#1)")},
		{broad(11, "#1"), broad(11, "#1"), broad(11, "#1")},
		{tower(63, "f0>1", "k0"), tower(63, "p0>1", "k0"), tower(63, "f0>1", "k0")},
		{tower(63, "p0>1", "k0"), tower(63, "p0>1", "k0"), tower(63, "f0>1", "k0")},
		{tower(62, "h", "f0>1(k0)"), tower(62, "h", "p0>1(k0)"), tower(62, "h", "f0>1(k0)")},
		{tower(31, "f0>1", tower(32, "p0>1", "k0")), tower(63, "p0>1", "k0"), tower(63, "f0>1", "k0")},
	} {
		p := term.New()
		u := of(t, p, x.text)
		makes(t, p, "View", x.seen)(view.View(p, 3, u))
		makes(t, p, "Swap", x.swapped)(view.Swap(p, 1, u))
		makes(t, p, "View", x.text)(view.View(p, 1, u))
		if !view.Alike(p, 4, []api.Term{u}, []api.Term{u}) || view.Alike(p, 4, []api.Term{u}, []api.Term{1}) {
			t.Errorf("Alike of %d nodes", p.Size(u))
		}
	}
}

// P10.2 to P10.5: long lists, up to all terms of a full pool.
func TestLong(t *testing.T) {
	p := term.New()
	var l, m []api.Term
	for i := range uint64(15000) {
		n, _ := p.Num(i)
		a, _ := p.Prom(0, 1, n)
		b, _ := p.Fake(0, 1, n)
		l, m = append(l, a, n, n), append(m, b, n, n)
	}
	if !view.Alike(p, 3, l, m) || view.Alike(p, 3, l, append(slices.Clone(m[:len(m)-3]), l[0], 1, 1)) || view.Alike(p, 0, l, m) {
		t.Error("Alike of long lists")
	}
	got, why := view.Classes(p, 3, append(slices.Clone(l), m...))
	if why != api.OK || len(got) != 2*len(l) || got[len(l)] != 0 || got[2*len(l)-3] != len(l)-3 || got[2*len(l)-1] != len(l)-2 {
		t.Errorf("Classes of long lists: error %d, %d", why, len(got))
	}
	if views, why := view.Frame(p, 3, m); why != api.OK || !slices.Equal(views, l) || p.Len() != 45000 {
		t.Errorf("Frame of a long list: error %d, %d terms", why, p.Len())
	}
	full, _ := filled(t, "f0>1(#1), p0>1(#1)", 0)
	var every []api.Term
	for i := range full.Len() {
		every = append(every, api.Term(i+1))
	}
	views, why := view.Frame(full, 3, every)
	if why != api.OK || len(views) != len(every) || views[1] != 3 || views[2] != 3 || !slices.Equal(views[2:], every[2:]) {
		t.Errorf("Frame of a full pool: error %d", why)
	}
}

// Rule 3: what is handed in stays as it is, and what is answered is in memory of its own.
func TestApart(t *testing.T) {
	p, l := few(t)
	for range 2 {
		untouched(t, l, func(l []api.Term) {
			views, _ := view.Frame(p, 3, l)
			numbers, _ := view.Classes(p, 3, l)
			if len(views) != len(l) || len(numbers) != len(l) || !view.Alike(p, 3, l, l) || !view.Alike(p, 2, l, l) {
				t.Fatalf("%v, %v", views, numbers)
			}
			clear(views[:cap(views)])
			clear(numbers[:cap(numbers)])
		})
		classes(t, p, 3, l)
		views, _ := view.Frame(p, 2, l)
		if !slices.Equal(views, l) {
			t.Errorf("%v instead of %v", views, l)
		}
		both := of(t, p, "(p3>1(#1) p4>1(#1))")
		promises := view.Promises(p, 1, both)
		clear(promises[:cap(promises)])
		if got := shown(p, view.Promises(p, 1, both)); got != "p3>1(#1), p4>1(#1)" {
			t.Error(got)
		}
	}
}

// Rule 4: in two pools that were made the same way, all is answered by the same numbers.
func TestSameTwice(t *testing.T) {
	d := dice(7)
	for range 50 {
		var texts []string
		for range 8 {
			texts = append(texts, anyText(&d, 4))
		}
		p, q := term.New(), term.New()
		l := list(t, p, strings.Join(texts, ", "))
		list(t, q, strings.Join(texts, ", "))
		for _, who := range watchers() {
			a, _ := view.Frame(p, who, l)
			b, _ := view.Frame(q, who, l)
			if !slices.Equal(a, b) {
				t.Fatalf("%s: %v and %v", texts, a, b)
			}
			for _, u := range l {
				a, _ := view.Swap(p, who, u)
				b, _ := view.Swap(q, who, u)
				if a != b || !slices.Equal(view.Promises(p, who, a), view.Promises(q, who, b)) {
					t.Fatalf("%s: %d and %d", texts, a, b)
				}
			}
		}
	}
}
