package recipe_test

import (
	"slices"
	"strings"
	"testing"

	"escrow/api"
	"escrow/deduce"
	"escrow/recipe"
	"escrow/speak"
	"escrow/term"
)

// meets fails if For does not tell a recipe of a term, or none, as P9.3, P9.6 and P9.7 have it; it tells how many operations that has.
func meets(t *testing.T, p *term.Pool, k *deduce.Know, u api.Term) int {
	t.Helper()
	long := p.Len()
	l, ok := recipe.For(p, k, u)
	steps, derived := k.Proof(u)
	if ok != (derived && len(steps) <= api.MaxOps) || ok != k.Derives(u) && len(steps) <= api.MaxOps {
		t.Fatalf("of %s, given %s: %t, though there are %d steps", speak.Print(p, u), shown(p, k.Given()), ok, len(steps))
	}
	if !ok {
		if len(l) != 0 {
			t.Fatalf("of %s, given %s: %v", speak.Print(p, u), shown(p, k.Given()), l)
		}
		return 0
	}
	v, why, at := recipe.Eval(p, k, l)
	if v != u || why != api.OK || at != 0 || len(l) != len(steps) {
		t.Fatalf("of %s, given %s: %v makes %s, error %d at %d", speak.Print(p, u), shown(p, k.Given()), l, speak.Print(p, v), why, at)
	}
	for i, v := range recipe.Trace(p, k, l) {
		if v != steps[i].T || !k.Derives(v) {
			t.Fatalf("of %s, given %s: %v makes %s in the place %d", speak.Print(p, u), shown(p, k.Given()), l, speak.Print(p, v), i)
		}
	}
	for _, o := range l {
		plain(t, o)
	}
	if p.Len() != long {
		t.Fatalf("%d terms instead of %d", p.Len(), long)
	}
	return len(l)
}

// plain fails if an operation has something in a field that its code does not name.
func plain(t *testing.T, o api.Op) {
	t.Helper()
	a, b, num, text := used(o.Code)
	if !a && o.A != 0 || !b && o.B != 0 || !num && o.Num != 0 || !text && o.Text != "" {
		t.Fatalf("%v", o)
	}
}

// lacks fails if For tells a recipe.
func lacks(t *testing.T, p *term.Pool, k *deduce.Know, u api.Term) {
	t.Helper()
	if l, ok := recipe.For(p, k, u); ok || len(l) != 0 {
		t.Errorf("of %d: %v, %t", u, l, ok)
	}
}

// P9.3: recipes by hand: of each rule, and each kind.
func TestFor(t *testing.T) {
	p, k := told(t, `#4, s0(((#1 k2) h(k9))), k1, s0(((#1 k2) h(k9))), p1>2(f2>1(k3))`)
	for text, want := range map[string][]api.Op{
		"k1":       {{Code: api.OpKnown, A: 2}},
		"h(k1)":    {{Code: api.OpKnown, A: 2}, {Code: api.OpHash}},
		"n15":      {{Code: api.OpName, A: 15}},
		"#7":       {{Code: api.OpNum, Num: 7}},
		`"ab"`:     {{Code: api.OpData, Text: "ab"}},
		"h(k9)":    {{Code: api.OpKnown, A: 1}, {Code: api.OpShow}, {Code: api.OpSecond, A: 1}},
		"k2":       {{Code: api.OpKnown, A: 1}, {Code: api.OpShow}, {Code: api.OpFirst, A: 1}, {Code: api.OpSecond, A: 2}},
		"k3":       {{Code: api.OpKnown, A: 3}, {Code: api.OpShow}, {Code: api.OpShow, A: 1}},
		"(n1 k1)":  {{Code: api.OpName, A: 1}, {Code: api.OpKnown, A: 2}, {Code: api.OpPair, A: 0, B: 1}},
		"s1(#7)":   {{Code: api.OpNum, Num: 7}, {Code: api.OpKnown, A: 2}, {Code: api.OpSign, A: 0, B: 1}},
		"p1>5(#7)": {{Code: api.OpNum, Num: 7}, {Code: api.OpKnown, A: 2}, {Code: api.OpProm, A: 0, B: 1, Num: 5}},
		"f5>1(#7)": {{Code: api.OpNum, Num: 7}, {Code: api.OpKnown, A: 2}, {Code: api.OpFake, A: 0, B: 1, Num: 5}},
		"f0>1(k1)": {{Code: api.OpKnown, A: 2}, {Code: api.OpFake}},
		"p1>0(k1)": {{Code: api.OpKnown, A: 2}, {Code: api.OpProm}},
	} {
		l, ok := recipe.For(p, k, of(t, p, text))
		if !ok || !slices.Equal(l, want) {
			t.Errorf("of %s: %v, %t instead of %v", text, l, ok, want)
		}
		makes(t, p, k, l, text)
		meets(t, p, k, of(t, p, text))
	}
}

// P9.3: what is not derived has none; what is no term neither.
func TestForNone(t *testing.T) {
	p, k := told(t, `s0(#1), k1, h(k5)`)
	for _, text := range []string{"k0", "k5", "s0(#2)", "p0>1(#1)", "f1>0(#1)", "h(k0)", "(#1 k0)", "s1(k0)", "s1(s0(#2))", "h(h(k0))", "p1>0(k5)"} {
		lacks(t, p, k, of(t, p, text))
	}
	for _, u := range strange(p.Len() + 1) {
		lacks(t, p, k, api.Term(u))
	}
	lacks(t, p, k, 0)
	u := of(t, p, "s1(k5)")
	lacks(t, p, k, u)
	k.Add(of(t, p, "k5"))
	if meets(t, p, k, u) != 3 {
		t.Error("there are not three operations")
	}
}

// P9.3: no pool, nobody who knows.
func TestForNil(t *testing.T) {
	p, k := told(t, `s0(#1), k1`)
	for u := api.Term(-1); u < 6; u++ {
		lacks(t, nil, k, u)
		lacks(t, p, nil, u)
		lacks(t, nil, nil, u)
	}
}

// broad is a term of so many numbers, unlike ones, in pairs: its proof has one step less than twice as many.
func broad(t *testing.T, p *term.Pool, first, leaves int) api.Term {
	t.Helper()
	if leaves == 1 {
		u, _ := p.Num(uint64(first))
		return u
	}
	a, b := broad(t, p, first, leaves/2), broad(t, p, first+leaves/2, leaves-leaves/2)
	u, why := p.Pair(a, b)
	if why != api.OK {
		t.Fatal(why)
	}
	return u
}

// P9.3, P9.7: just so many operations as may be, and one more.
func TestForMost(t *testing.T) {
	p := term.New()
	k := deduce.New(p)
	for _, x := range []struct {
		leaves, hashes, want int
	}{
		{1, 0, 1}, {127, 0, 253}, {127, 1, 254}, {127, 2, 255}, {127, 3, 256}, {127, 4, 0},
		{128, 0, 255}, {128, 1, 256}, {128, 2, 0}, {129, 0, 0}, {129, 1, 0}, {500, 0, 0}, {2000, 0, 0},
	} {
		u := broad(t, p, 0, x.leaves)
		for range x.hashes {
			u, _ = p.Hash(u)
		}
		if got := meets(t, p, k, u); got != x.want {
			t.Errorf("%d leaves and %d hashes: %d operations", x.leaves, x.hashes, got)
		}
	}
	u := broad(t, p, 0, 2000)
	k.Add(u)
	if got := meets(t, p, k, u); got != 1 {
		t.Errorf("%d operations", got)
	}
}

// P9.3: what stands in a term many times is made once; the deepest terms, taken apart and made.
func TestForDeepest(t *testing.T) {
	p, k := told(t, "k0, k1")
	u := of(t, p, "h(k0)")
	for range 10 {
		u, _ = p.Pair(u, u)
	}
	if got := meets(t, p, k, u); got != 12 {
		t.Errorf("%d operations", got)
	}
	for _, kind := range []string{"s0(", "p0>1(", "f0>1(", "(#1 "} {
		for _, others := range []int{1, 2, api.MaxDepth - 1} {
			tower := func(in string) api.Term {
				return of(t, p, strings.Repeat(kind, others)+in+strings.Repeat(")", others))
			}
			meets(t, p, k, tower("#7"))
			meets(t, p, k, tower("k6"))
			more := k.Copy()
			more.Add(tower("k5"))
			for _, text := range []string{"k5", "s5(k5)", "s5((k0 k5))"} {
				if meets(t, p, more, of(t, p, text)) == 0 {
					t.Errorf("%s: none", text)
				}
			}
		}
	}
}

// P9.3: much that was given, the last of it among it; a pool without room.
func TestForFullPool(t *testing.T) {
	p := term.New()
	k := knowing(t, p, list(t, p, "k3, s0(#1)"))
	made := of(t, p, "s3((k3 h(#1)))")
	for i := uint64(0); p.Len() < api.MaxTerms; i++ {
		u, _ := p.Num(i)
		h, why := p.Hash(u)
		if why != api.OK {
			break
		}
		k.Add(h)
	}
	given := k.Given()
	meets(t, p, k, made)
	for _, u := range []api.Term{given[0], given[1], given[2], given[len(given)/2], given[len(given)-1]} {
		if meets(t, p, k, u) != 1 {
			t.Errorf("of %s", speak.Print(p, u))
		}
	}
}

// P9.3, P9.6, P9.7: each of few terms, for all who were given at most two of them.
func TestForEach(t *testing.T) {
	p := few(t)
	all := api.Term(p.Len())
	found := 0
	for a := api.Term(1); a <= all; a++ {
		for b := api.Term(1); b <= all; b++ {
			k := knowing(t, p, []api.Term{a, b})
			for u := api.Term(0); u <= all+1; u++ {
				found += min(1, meets(t, p, k, u))
			}
		}
	}
	if found < 5000 {
		t.Errorf("just %d recipes", found)
	}
}

// P9.6: whatever operations make is derived, each of them; P9.3, P9.7: so For has a recipe for it.
func TestSound(t *testing.T) {
	d := dice(2)
	for range 3000 {
		p, k := anyKnow(t, &d)
		ops := anyOps(&d, trees(p, k))
		made := recipe.Trace(p, k, ops)
		if u, why, _ := recipe.Eval(p, k, ops); why == api.OK {
			made = append(made, u)
		}
		for _, u := range made {
			if !k.Derives(u) {
				t.Fatalf("given %s, %v: %s", shown(p, k.Given()), ops, speak.Print(p, u))
			}
			if meets(t, p, k, u) == 0 {
				t.Fatalf("given %s: no recipe for %s", shown(p, k.Given()), speak.Print(p, u))
			}
		}
	}
}

// P9.7: a term that nothing was made of till now; that others were given more does not count.
func TestForPoolGoesOn(t *testing.T) {
	p := term.New()
	k := knowing(t, p, list(t, p, "s0((#1 h(k1)))"))
	other := k.Copy()
	other.Add(of(t, p, "k1"))
	for _, text := range []string{"s1(#1)", "p1>0(#1)", "f0>1(#1)", "k1", "(#1 s1(#1))"} {
		u := of(t, p, text)
		lacks(t, p, k, u)
		if meets(t, p, other, u) == 0 {
			t.Errorf("of %s: none", text)
		}
	}
	for _, text := range []string{"(h(k1) #1)", `"new"`, "n9", `h((s0((#1 h(k1))) "new"))`} {
		if meets(t, p, k, of(t, p, text)) == 0 {
			t.Errorf("of %s: none", text)
		}
	}
}

// Rule 3: each answer is in memory of its own, its spare room too.
func TestForApart(t *testing.T) {
	p, k := told(t, "s0((k1 n2)), k3, n2")
	u := of(t, p, "s1((k3 n2))")
	want, _ := recipe.For(p, k, u)
	for range 2 {
		l, ok := recipe.For(p, k, u)
		if !ok || !slices.Equal(l, want) {
			t.Fatalf("%v instead of %v", l, want)
		}
		l = l[:cap(l)]
		for i := range l {
			l[i] = api.Op{Code: -1}
		}
	}
	if got := shown(p, k.Given()); got != "s0((k1 n2)), k3, n2" {
		t.Errorf("given %s", got)
	}
}

// Rule 1: with a pool that is not that of who knows nothing is promised but that each call ends.
func TestOtherPool(t *testing.T) {
	d := dice(9)
	for range 300 {
		p, k := anyKnow(t, &d)
		ops := anyOps(&d, trees(p, k))
		for _, q := range []*term.Pool{term.New(), few(t)} {
			recipe.Eval(q, k, ops)
			recipe.Trace(q, k, ops)
			for u := range api.Term(p.Len() + 1) {
				l, _ := recipe.For(q, k, u)
				recipe.Eval(q, k, l)
			}
		}
	}
}
