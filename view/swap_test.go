package view_test

import (
	"slices"
	"testing"

	"escrow/api"
	"escrow/speak"
	"escrow/term"
	"escrow/view"
)

// P10.5: by hand.
func TestSwap(t *testing.T) {
	for _, x := range []struct {
		to                   int
		text, want, promises string
	}{
		{1, "(p0>1(#1) p1>0(#1))", "(f0>1(#1) p1>0(#1))", "p0>1(#1)"}, {0, "(p0>1(#1) p1>0(#1))", "(p0>1(#1) f1>0(#1))", "p1>0(#1)"}, {2, "(p0>1(#1) p1>0(#1))", "(p0>1(#1) p1>0(#1))", ""},
		{1, "p0>1(#1)", "f0>1(#1)", "p0>1(#1)"}, {1, "f0>1(#1)", "f0>1(#1)", ""}, {1, "f0>1(p3>1(#1))", "f0>1(f3>1(#1))", "p3>1(#1)"}, {1, "f1>0(p3>1(#1))", "f1>0(f3>1(#1))", "p3>1(#1)"},
		{1, "p0>1(p3>1(#1))", "f0>1(f3>1(#1))", "p3>1(#1), p0>1(p3>1(#1))"}, {1, "p1>0(p3>1(#1))", "p1>0(f3>1(#1))", "p3>1(#1)"}, {1, "p0>1(p1>3(#1))", "f0>1(p1>3(#1))", "p0>1(p1>3(#1))"},
		{1, "h(p0>1(#1))", "h(f0>1(#1))", "p0>1(#1)"}, {1, "s1(p0>1(#1))", "s1(f0>1(#1))", "p0>1(#1)"}, {2, "s1(p0>2(#1))", "s1(f0>2(#1))", "p0>2(#1)"}, {15, "p2>15(#1)", "f2>15(#1)", "p2>15(#1)"},
		{1, "n1", "n1", ""}, {1, "#1", "#1", ""}, {1, `"p0>1"`, `"p0>1"`, ""}, {1, "k1", "k1", ""}, {1, "h(#1)", "h(#1)", ""}, {1, "s1(#1)", "s1(#1)", ""},
		{1, "(p0>1(#1) (p0>1(#1) f0>1(#1)))", "(f0>1(#1) (f0>1(#1) f0>1(#1)))", "p0>1(#1)"},
		{0, "(p1>0(#1) (p1>0(#2) p2>0(#1)))", "(f1>0(#1) (f1>0(#2) f2>0(#1)))", "p1>0(#1), p1>0(#2), p2>0(#1)"},
	} {
		p := term.New()
		u := of(t, p, x.text)
		if got := shown(p, view.Promises(p, x.to, u)); got != x.promises {
			t.Errorf("Promises to %d in %s: %s", x.to, x.text, got)
		}
		for range 2 {
			makes(t, p, x.text, x.want)(view.Swap(p, x.to, u))
		}
	}
}

// P10.5: promises rise by their numbers, whatever stands ahead of what in the term.
func TestPromisesRise(t *testing.T) {
	p := term.New()
	l := list(t, p, "p5>1(#1), p4>1(#1), p3>1(#1), f3>1(#1), p3>1(k0)")
	for _, text := range []string{"(p3>1(k0) (p3>1(#1) (p4>1(#1) p5>1(#1))))", "(p5>1(#1) (p3>1(k0) (p4>1(#1) (f3>1(#1) p3>1(#1)))))"} {
		if got, want := view.Promises(p, 1, of(t, p, text)), []api.Term{l[0], l[1], l[2], l[4]}; !slices.Equal(got, want) {
			t.Errorf("%s: %v instead of %v", text, got, want)
		}
	}
}

// P10.5: there are none in none, to nobody, and none is made.
func TestPromisesNone(t *testing.T) {
	p, l := few(t)
	long := p.Len()
	for _, name := range append(noNames(), watchers()...) {
		for _, u := range strange(p.Len()) {
			if a, b := view.Promises(p, name, u), view.Promises(nil, name, u); len(a)+len(b) != 0 {
				t.Errorf("to %d in %d: %v, %v", name, u, a, b)
			}
		}
		for _, u := range l {
			if a := view.Promises(nil, name, u); len(a) != 0 {
				t.Errorf("to %d in %d of a nil pool: %v", name, u, a)
			}
			if a := view.Promises(p, name, u); len(a) != 0 && slices.Contains(noNames(), name) {
				t.Errorf("to %d in %d: %v", name, u, a)
			}
		}
	}
	if p.Len() != long {
		t.Errorf("%d terms instead of %d", p.Len(), long)
	}
}

// P10.5: of many terms that look like chance; nothing is made but what stands in what is answered.
func TestSwapAny(t *testing.T) {
	d := dice(2)
	for range 300 {
		p, l := few(t)
		for range 10 {
			l = append(l, of(t, p, anyText(&d, 5)))
		}
		may := map[api.Term]struct{}{}
		for u := range p.Len() {
			may[api.Term(u+1)] = struct{}{}
		}
		for _, to := range watchers() {
			for _, u := range l {
				x := p.Tree(u)
				var want []api.Term
				for _, y := range all(x) {
					if v := of(t, p, spell(y)); y.Kind == 8 && y.To == to && !slices.Contains(want, v) {
						want = append(want, v)
					}
				}
				slices.Sort(want)
				if got := view.Promises(p, to, u); !slices.Equal(got, want) {
					t.Fatalf("Promises to %d in %s: %s instead of %s", to, spell(x), shown(p, got), shown(p, want))
				}
				v, why := view.Swap(p, to, u)
				makes(t, p, spell(x), spell(judgeSwap(to, x)))(v, why)
				for w := range p.Subs(v) {
					may[w] = struct{}{}
				}
			}
		}
		if p.Len() != len(may) {
			t.Fatalf("%d terms instead of %d", p.Len(), len(may))
		}
	}
}

// P10.5: a pool without room.
func TestSwapNoRoom(t *testing.T) {
	for _, x := range []struct {
		text  string
		lacks int
	}{
		{"p0>1(#1)", 1}, {"(p0>1(#1) f0>1(#1))", 1}, {"(p0>1(#1) #1)", 2}, {"p0>1(p0>1(#1))", 2}, {"h((p0>1(#1) p3>1(#1)))", 4}, {"p1>0(#1)", 0}, {"f0>1(#1)", 0},
	} {
		for room := range 6 {
			p, l := filled(t, x.text, room)
			u, long := l[0], p.Len()
			was := trees(p, []api.Term{1, 2})
			want := spell(judgeSwap(1, p.Tree(u)))
			if room >= x.lacks {
				makes(t, p, x.text, want)(view.Swap(p, 1, u))
				still(t, p, long+x.lacks, was)
				continue
			}
			for range 2 {
				refused(t, x.text, api.ErrMany)(view.Swap(p, 1, u))
				refused(t, "none", api.ErrTerm)(view.Swap(p, 1, api.Term(api.MaxTerms+1)))
			}
			still(t, p, p.Len(), was) // what was made may stay
			if got := speak.Print(p, u); got != x.text {
				t.Errorf("%s is %s", x.text, got)
			}
		}
	}
}
