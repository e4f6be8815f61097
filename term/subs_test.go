package term_test

import (
	"slices"
	"testing"

	"escrow/api"
	"escrow/term"
)

// P5.6: what stands in a term stands ahead of it, that of A ahead of that of B, each once.
func TestSubs(t *testing.T) {
	p := term.New()
	a, b := of(t, p, data("a")), of(t, p, data("b"))
	back, _ := p.Pair(b, a)
	both, _ := p.Pair(back, a)
	mixed, _ := p.Prom(0, 1, both)
	top, _ := p.Pair(mixed, back)
	for u, want := range map[api.Term][]api.Term{
		a: {a}, back: {b, a, back}, both: {b, a, back, both}, mixed: {b, a, back, both, mixed}, top: {b, a, back, both, mixed, top},
	} {
		if got := slices.Collect(p.Subs(u)); !slices.Equal(got, want) {
			t.Errorf("of %d: %v instead of %v", u, got, want)
		}
	}
}

// P5.6: it is left after any number of terms, gone over again, and nested.
func TestSubsLeft(t *testing.T) {
	p := term.New()
	u := of(t, p, pair(sign(0, pair(data("a"), data("b"))), hash(data("a"))))
	want := []api.Term{1, 2, 3, 4, 5, 6}
	all := p.Subs(u)
	for most := range len(want) + 1 {
		var l []api.Term
		for v := range all {
			if len(l) == most {
				break
			}
			l = append(l, v)
		}
		if !slices.Equal(l, want[:most]) {
			t.Errorf("left after %d: %v", most, l)
		}
	}
	for range 2 {
		var outer []api.Term
		for v := range all {
			outer = append(outer, v)
			if inner := slices.Collect(all); !slices.Equal(inner, want) {
				t.Fatalf("nested: %v", inner)
			}
			for range p.Subs(v) {
				break
			}
		}
		if !slices.Equal(outer, want) {
			t.Errorf("gone over again: %v", outer)
		}
	}
}

// P5.6, rule 4: it is as it was when it was told: terms that come later do not stand in it, whichever number they have.
func TestSubsAsTold(t *testing.T) {
	p := term.New()
	u := of(t, p, hash(data("a")))
	here, none := p.Subs(u), p.Subs(u+1)
	var l []api.Term
	for v := range here {
		l = append(l, v)
		of(t, p, hash(hash(data("b"))))
		p.Of(pair(name(0), name(-1)))
	}
	if !slices.Equal(l, []api.Term{1, 2}) || p.Len() != 5 {
		t.Errorf("%v, %d terms", l, p.Len())
	}
	for v := range none {
		t.Errorf("of a term that came later: %d", v)
	}
	if l := slices.Collect(p.Subs(u + 1)); !slices.Equal(l, []api.Term{3}) {
		t.Errorf("told anew: %v", l)
	}
}

// P5.6: a term that stands in itself often is gone over once, however large it is as a tree.
func TestSubsOfMany(t *testing.T) {
	p := term.New()
	u := of(t, p, name(0))
	for range 11 {
		u, _ = p.Pair(u, u)
	}
	if l := slices.Collect(p.Subs(u)); p.Size(u) != 4095 || len(l) != 12 || !slices.IsSorted(l) {
		t.Errorf("size %d: %v", p.Size(u), l)
	}
}
