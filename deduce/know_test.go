package deduce_test

import (
	"slices"
	"strings"
	"testing"

	"escrow/api"
	"escrow/deduce"
	"escrow/speak"
	"escrow/term"
)

// P8.3, P8.4, P8.9: who was given these sees just those, and derives and does not derive these.
func TestKnowing(t *testing.T) {
	for _, x := range []struct{ given, seen, derived, not string }{
		{"", "", `#1, "x", n3, (#1 "x"), h(n3), ((#1 n2) h("")), h(h((n1 n1)))`, "k0, s0(#1), p0>1(#1), f0>1(#1), h(k0), (k0 #1), (#1 k0), h(s0(#1))"},
		{"#1", "#1", "#1, #2", "k1"},
		{"s0((#1 n2))", "s0((#1 n2)), (#1 n2), #1, n2", `"x", h(#1), (#1 "x"), h(s0((#1 n2))), (s0((#1 n2)) #7)`, "k0, s0(#1), s0((n2 #1)), s1((#1 n2)), p0>1((#1 n2)), h(s0(#1))"},
		{"k0", "k0", "s0(#1), p0>1(#1), p0>15(n1), f1>0(#1), f15>0(n1), s0(s0(n1)), s0(k0), h(k0), (k0 k0), p0>1(f1>0(k0))", "k1, s1(#1), p1>0(#1), f0>1(#1), s0(k1), f2>0(s2(n1)), p0>1(p1>0(#1))"},
		{"s0((#1 n2)), k0", "s0((#1 n2)), (#1 n2), #1, n2, k0", "s0(#1), p0>1(#1), f1>0(#1), h((#1 s0(#1)))", "f0>1(#1), p1>0(#1)"},
		{"h(k0)", "h(k0)", "h(k0), (h(k0) n1), h(h(k0))", "k0, (k0 n1), s0(n1)"},
		{"h((k0 k1)), h(s2(k2))", "h((k0 k1)), h(s2(k2))", "(h((k0 k1)) h(s2(k2)))", "(k0 k1), k0, k1, s2(k2), k2, s2(n1)"},
		{"h(k0), k0", "h(k0), k0", "h(k0), h(h(k0)), s0(h(k0))", "h(k1)"},
		{"(k0 (k1 s2(n7)))", "(k0 (k1 s2(n7))), k0, (k1 s2(n7)), k1, s2(n7), n7", "s0(n1), s1(n1), p0>1(n1), p1>0(n1), f0>1(n1), s2(n7), (s2(n7) k1), s0(s2(n7))", "s2(n8), k2, p2>0(n7), f0>2(n7)"},
		{"p0>1(k2)", "p0>1(k2), k2", "p0>1(k2), s2(n1), f0>2(n1), p2>1(n1), h(p0>1(k2))", "p0>1(n1), f0>1(k2), f0>1(n1), p0>2(n1), p1>0(k2), f2>0(n1), s0(k2), s1(k2)"},
		{"f0>1(k1)", "f0>1(k1), k1", "f0>1(k1), f0>1(n1), p1>0(n1), s1(k1)", "p0>1(k1), p0>1(n1), f1>0(n1), k0"},
		{"f0>1((#1 h(k1)))", "f0>1((#1 h(k1))), (#1 h(k1)), #1, h(k1)", "f0>1((#1 h(k1)))", "f0>1(#1), f2>1((#1 h(k1))), p0>1((#1 h(k1))), k1"},
		{"s0(k0), s1(s1(n1))", "s0(k0), k0, s1(s1(n1)), s1(n1), n1", "s0(s1(s1(n1))), f1>0(n1)", "s1(n2), s1(s1(s1(n1)))"},
		{"(#1 #1), k15", "(#1 #1), #1, k15", "s15(n15), f14>15((#1 #1)), p15>0((#1 #1))", "k14, k0, p14>15(#1)"},
	} {
		p := term.New()
		k := knowing(t, p, list(t, p, x.given))
		want := list(t, p, x.seen)
		slices.Sort(want)
		derived, not := list(t, p, x.derived), list(t, p, x.not)
		long := p.Len()
		if got := k.Seen(); !slices.Equal(got, want) {
			t.Errorf("given %s: seen %s", x.given, shown(p, got))
		}
		for u := api.Term(1); int(u) <= long; u++ {
			if k.Sees(u) != slices.Contains(want, u) {
				t.Errorf("given %s: Sees of %s: %t", x.given, speak.Print(p, u), k.Sees(u))
			}
		}
		for _, u := range slices.Concat(want, derived) {
			if !k.Derives(u) {
				t.Errorf("given %s: not derived: %s", x.given, speak.Print(p, u))
			}
			proven(t, p, k, u)
		}
		for _, u := range not {
			unproven(t, p, k, u)
		}
		if p.Len() != long {
			t.Errorf("given %s: %d terms instead of %d", x.given, p.Len(), long)
		}
	}
}

// P8.2: each once, in the order in which it was first given, whether it was seen ahead or not.
func TestGiven(t *testing.T) {
	p := term.New()
	k := deduce.New(p)
	l := list(t, p, "s0((k1 n2)), n2, s0((k1 n2)), (k1 n2), h(#1), n2, k1, n7, (k1 n2), k1")
	want := list(t, p, "s0((k1 n2)), n2, (k1 n2), h(#1), k1, n7")
	if got := k.Given(); len(got) != 0 {
		t.Errorf("given %v", got)
	}
	for _, u := range l {
		if why := k.Add(u); why != api.OK {
			t.Errorf("Add(%d): error %d", u, why)
		}
	}
	if got := k.Given(); !slices.Equal(got, want) {
		t.Errorf("given %s", shown(p, got))
	}
	for _, u := range want {
		if l, ok := k.Proof(u); !ok || len(l) != 1 {
			t.Errorf("%s: %v, %t", speak.Print(p, u), l, ok)
		}
	}
}

// P8.2: what was given stays so, and is given once, also where more that is given shows it.
func TestGivenThenShown(t *testing.T) {
	p := term.New()
	l := list(t, p, "k1, (k1 k2), s0((k1 k2)), p0>1(s0((k1 k2)))")
	k := knowing(t, p, slices.Concat(l, l))
	if got := k.Given(); !slices.Equal(got, l) {
		t.Errorf("given %s", shown(p, got))
	}
	for _, u := range l {
		if l, ok := k.Proof(u); !ok || len(l) != 1 || l[0] != (api.Step{Rule: given, T: u}) {
			t.Errorf("%s: %v, %t", speak.Print(p, u), l, ok)
		}
	}
}

// P8.2: what is no term of the pool is refused, and nothing is changed; what gets its number later is not given by that.
func TestAddStrange(t *testing.T) {
	p := term.New()
	k := knowing(t, p, list(t, p, "s0(h(#1))"))
	for _, u := range strange(p.Len()) {
		if why := k.Add(u); why != api.ErrTerm {
			t.Errorf("Add(%d): error %d", u, why)
		}
		if k.Sees(u) {
			t.Errorf("Sees(%d)", u)
		}
		unproven(t, p, k, u)
	}
	if got := k.Given(); !slices.Equal(got, []api.Term{3}) || !slices.Equal(k.Seen(), []api.Term{2, 3}) {
		t.Errorf("given %v, seen %v", got, k.Seen())
	}
	key := of(t, p, "k0")
	if key != 4 || k.Sees(key) || len(k.Given()) != 1 {
		t.Errorf("the term %d: Sees %t, given %v", key, k.Sees(key), k.Given())
	}
	unproven(t, p, k, key)
	if why := k.Add(key); why != api.OK || !k.Sees(key) {
		t.Errorf("error %d, Sees %t", why, k.Sees(key))
	}
}

// P8.2, P8.5: a nil Know, and New of a nil pool.
func TestNil(t *testing.T) {
	if k := deduce.New(nil); k != nil {
		t.Errorf("New: %v", k)
	}
	var k *deduce.Know
	if l, m := k.Given(), k.Seen(); len(l) != 0 || len(m) != 0 || k.Copy() != nil {
		t.Errorf("given %v, seen %v, Copy %v", l, m, k.Copy())
	}
	for _, u := range append(strange(0), 3) {
		if why := k.Add(u); why != api.ErrNone {
			t.Errorf("Add(%d): error %d", u, why)
		}
		if l, ok := k.Proof(u); len(l) != 0 || ok || k.Sees(u) || k.Derives(u) {
			t.Errorf("%d: %v, %t, Sees %t, Derives %t", u, l, ok, k.Sees(u), k.Derives(u))
		}
	}
}

// P8.5: what is given to one is not known to the other, nor to another one over that pool.
func TestCopy(t *testing.T) {
	p := term.New()
	l := list(t, p, "s0((#1 k1)), k0, k2, s3(k3)")
	one := knowing(t, p, l[:2])
	other, third := one.Copy(), deduce.New(p)
	same := func(k *deduce.Know, given, seen string) {
		t.Helper()
		want := list(t, p, seen)
		slices.Sort(want)
		if !slices.Equal(k.Given(), list(t, p, given)) || !slices.Equal(k.Seen(), want) {
			t.Errorf("given %s, seen %s", shown(p, k.Given()), shown(p, k.Seen()))
		}
		for u := api.Term(1); int(u) <= p.Len(); u++ {
			if k.Sees(u) != slices.Contains(want, u) {
				t.Errorf("Sees of %s: %t", speak.Print(p, u), k.Sees(u))
			}
		}
	}
	seen := "s0((#1 k1)), (#1 k1), #1, k1, k0"
	same(other, "s0((#1 k1)), k0", seen)
	one.Add(l[2])
	same(one, "s0((#1 k1)), k0, k2", seen+", k2")
	same(other, "s0((#1 k1)), k0", seen)
	other.Add(l[3])
	other.Add(of(t, p, "k1"))
	same(one, "s0((#1 k1)), k0, k2", seen+", k2")
	same(other, "s0((#1 k1)), k0, s3(k3), k1", seen+", s3(k3), k3")
	same(third, "", "")
	unproven(t, p, one, of(t, p, "s3(#1)"))
	proven(t, p, other, of(t, p, "s3(#1)"))
	unproven(t, p, other, of(t, p, "s2(#1)"))
	proven(t, p, one, of(t, p, "s2(#1)"))
	proven(t, p, other.Copy().Copy(), of(t, p, "s3((k1 k0))"))
}

// P8.5: however many were given, and whichever is given more first.
func TestCopyOfMany(t *testing.T) {
	p := term.New()
	k, want := deduce.New(p), []api.Term(nil)
	more := list(t, p, "k0, k1, k2")
	for i := range uint64(40) {
		one, other := k.Copy(), k.Copy()
		for j, x := range []*deduce.Know{one, k, other} {
			x.Add(more[j])
		}
		for j, x := range []*deduce.Know{one, k, other} {
			if got := x.Given(); !slices.Equal(got, append(slices.Clone(want), more[j])) {
				t.Fatalf("given %s", shown(p, got))
			}
		}
		u, _ := p.Num(i)
		want = append(want, u)
		k = knowing(t, p, want)
	}
}

// P8.4: its pool may go on to be used; what it makes later is derived just as what was there.
func TestPoolGoesOn(t *testing.T) {
	p := term.New()
	k := knowing(t, p, list(t, p, "s0((#1 h(k1)))"))
	for _, text := range []string{"s1(#1)", "p1>0(#1)", "f0>1(#1)", "k1", "s1(h(k1))", "(#1 s1(#1))"} { // at first the pool has no k1 that anybody could say
		unproven(t, p, k, of(t, p, text))
	}
	for _, text := range []string{"(h(k1) #1)", `"new"`, "n9", `h((s0((#1 h(k1))) "new"))`} {
		proven(t, p, k, of(t, p, text))
	}
	k.Add(of(t, p, "(n3 k1)"))
	for _, text := range []string{"s1(#1)", "p1>0(#1)", "f0>1(#1)", "k1", "s1(h(k1))", "(#1 s1(#1))", "s1(s1(#77))"} {
		proven(t, p, k, of(t, p, text))
	}
}

// P8.4: without its key in the pool nobody makes a signature, a promise, a fake.
func TestNoKey(t *testing.T) {
	for _, text := range []string{"s0(#1)", "p0>1(#1)", "f1>0(#1)"} {
		p := term.New()
		u := of(t, p, text)
		k := knowing(t, p, list(t, p, "k1, k2"))
		unproven(t, p, k, u)
		key := of(t, p, "k0")
		unproven(t, p, k, u)
		k.Add(key)
		proven(t, p, k, u)
	}
}

// P8.1, P8.4: both proofs of the chapter's example are ones; of what is given directly the proof is that.
func TestExample(t *testing.T) {
	checks(t, "s0((#1 n2))", []line{{given, 0, 0, "s0((#1 n2))"}, {show, 0, 0, "(#1 n2)"}, {first, 1, 0, "#1"}, {made, 2, 0, "h(#1)"}}, api.OK, 0)
	checks(t, "s0((#1 n2))", []line{{free, 0, 0, "#1"}, {made, 0, 0, "h(#1)"}}, api.OK, 0)
	p := term.New()
	k := knowing(t, p, list(t, p, "s0((k1 k2))"))
	l, ok := k.Proof(of(t, p, "k2"))
	if want := steps(t, p, []line{{given, 0, 0, "s0((k1 k2))"}, {show, 0, 0, "(k1 k2)"}, {second, 1, 0, "k2"}}); !ok || !slices.Equal(l, want) {
		t.Errorf("%v, %t", l, ok)
	}
}

// P8.3, P8.4: the deepest terms, taken apart and made.
func TestDeepest(t *testing.T) {
	p := term.New()
	for _, kind := range []string{"s0(", "p0>1(", "f0>1(", "(#1 "} {
		tower := func(others int, in string) api.Term {
			return of(t, p, strings.Repeat(kind, others)+in+strings.Repeat(")", others))
		}
		k := knowing(t, p, []api.Term{tower(api.MaxDepth-1, "k5")})
		for others := range api.MaxDepth {
			if !k.Sees(tower(others, "k5")) {
				t.Fatalf("%d times %s: not seen", others, kind)
			}
		}
		proven(t, p, k, of(t, p, "s5(k5)"))
		k = knowing(t, p, list(t, p, "k0, k1"))
		proven(t, p, k, tower(api.MaxDepth-1, "#7"))
		unproven(t, p, k, tower(api.MaxDepth-1, "k6"))
	}
	k := knowing(t, p, list(t, p, "k0"))
	u := of(t, p, strings.Repeat("h(", api.MaxDepth-1)+"k0"+strings.Repeat(")", api.MaxDepth-1))
	if l, _ := k.Proof(u); len(l) != api.MaxDepth {
		t.Errorf("%d steps", len(l))
	}
	proven(t, p, k, u)
	k = knowing(t, p, []api.Term{u})
	if !slices.Equal(k.Seen(), []api.Term{u}) {
		t.Errorf("seen %v", k.Seen())
	}
}

// P8.4: the largest terms: of unlike parts, and of one part many times, which is said once.
func TestLargest(t *testing.T) {
	p := term.New()
	var low []api.Term
	for i := range uint64(1024) {
		u, _ := p.Num(i)
		low = append(low, u)
	}
	for len(low) > 1 {
		var next []api.Term
		for i := 0; i < len(low); i += 2 {
			u, why := p.Pair(low[i], low[i+1])
			if why != api.OK {
				t.Fatal(why)
			}
			next = append(next, u)
		}
		low = next
	}
	whole := low[0]
	if l, _ := deduce.New(p).Proof(whole); p.Size(whole) != 2047 || len(l) != 2047 {
		t.Errorf("size %d, %d steps", p.Size(whole), len(l))
	}
	proven(t, p, deduce.New(p), whole)
	k := knowing(t, p, []api.Term{whole})
	if len(k.Seen()) != 2047 {
		t.Errorf("%d are seen", len(k.Seen()))
	}
	u := of(t, p, "h(k0)")
	for range 10 {
		u, _ = p.Pair(u, u)
	}
	k = knowing(t, p, list(t, p, "k0"))
	if l, _ := k.Proof(u); p.Size(u) != 3071 || len(l) != 12 {
		t.Errorf("size %d, %d steps", p.Size(u), len(l))
	}
	proven(t, p, k, u)
	unproven(t, p, deduce.New(p), u)
}

// P8.2 to P8.4: a pool that is full, all of it given; no call makes a term.
func TestFullPool(t *testing.T) {
	p := term.New()
	last := of(t, p, "s0(k1)")
	for i := uint64(0); p.Len() < api.MaxTerms-1; i++ {
		last, _ = p.Num(i)
	}
	pair, _ := p.Pair(last, last)
	k := deduce.New(p)
	for u := api.Term(api.MaxTerms); u >= 1; u-- {
		if why := k.Add(u); why != api.OK {
			t.Fatalf("Add(%d): error %d", u, why)
		}
	}
	if l := k.Given(); len(l) != api.MaxTerms || l[0] != pair || l[api.MaxTerms-1] != 1 {
		t.Errorf("%d are given", len(l))
	}
	if l := k.Seen(); len(l) != api.MaxTerms || l[0] != 1 || !slices.IsSorted(l) {
		t.Errorf("%d are seen", len(l))
	}
	for u := api.Term(1); u <= api.MaxTerms; u++ {
		if !k.Sees(u) || !k.Derives(u) {
			t.Fatalf("%d: Sees %t, Derives %t", u, k.Sees(u), k.Derives(u))
		}
	}
	proven(t, p, k, pair)
	none := deduce.New(p)
	proven(t, p, none, pair)
	unproven(t, p, none, 2)
	for _, u := range strange(p.Len()) {
		if why := k.Add(u); why != api.ErrTerm {
			t.Errorf("Add(%d): error %d", u, why)
		}
		unproven(t, p, k, u)
	}
}

// Rule 3: each answer is in memory of its own, its spare room too.
func TestAnswersApart(t *testing.T) {
	p := term.New()
	k := knowing(t, p, list(t, p, "s0((k1 n2)), k3, n2"))
	u := of(t, p, "s1((k3 n2))")
	given, seen := k.Given(), k.Seen()
	proof, _ := k.Proof(u)
	for range 2 {
		l, m := k.Given(), k.Seen()
		n, ok := k.Proof(u)
		if !slices.Equal(l, given) || !slices.Equal(m, seen) || !slices.Equal(n, proof) || !ok {
			t.Fatalf("given %v, seen %v, %v", l, m, n)
		}
		l, m, n = l[:cap(l)], m[:cap(m)], n[:cap(n)]
		for i := range l {
			l[i] = 1
		}
		for i := range m {
			m[i] = 1
		}
		for i := range n {
			n[i] = api.Step{}
		}
		k = k.Copy()
	}
	given = given[:cap(given)]
	k.Add(of(t, p, "n9"))
	for i := range given {
		given[i] = 1
	}
	if got := k.Given(); !slices.Equal(got, list(t, p, "s0((k1 n2)), k3, n2, n9")) {
		t.Errorf("given %s", shown(p, got))
	}
}
