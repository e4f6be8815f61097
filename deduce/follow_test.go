package deduce_test

import (
	"slices"
	"testing"

	"escrow/api"
	"escrow/deduce"
	"escrow/speak"
	"escrow/term"
)

// few is a pool of few terms of each kind, one in another in many ways.
func few(t *testing.T) *term.Pool {
	t.Helper()
	p := term.New()
	list(t, p, `k0, k1, #1, n2, "a", h(k0), h(#1), (k0 k1), (#1 k0), s0(#1), s1(k0), s0(k1), s2(#1), p0>1(#1), p1>0(k1), f0>1(#1), f1>0(#1), f0>1(k0), f2>3(k1)`)
	list(t, p, `s1((#1 k0)), s0(s1(k0)), p0>1(s0(k1)), h(s0(#1)), (s0(#1) h(k0)), h((k0 k1)), f1>0(h(h(k1))), s0(h(k1)), p1>0(f0>1(k0)), ((k0 k1) n2), s3((k0 #1))`)
	return p
}

// fits fails if one who was given these does not see and derive just what the pool's laws let it, or has no proof of that.
func fits(t *testing.T, p *term.Pool, ls, opens map[law]struct{}, l []api.Term) *deduce.Know {
	t.Helper()
	k := knowing(t, p, l)
	if got, want := k.Seen(), rising(reached(opens, l)); !slices.Equal(got, want) {
		t.Fatalf("given %s: seen %s instead of %s", shown(p, l), shown(p, got), shown(p, want))
	}
	if got, want := derived(p, k), rising(reached(ls, l)); !slices.Equal(got, want) {
		t.Fatalf("given %s: derived %s instead of %s", shown(p, l), shown(p, got), shown(p, want))
	}
	return k
}

// derived are the pool's terms that are.
func derived(p *term.Pool, k *deduce.Know) []api.Term {
	var l []api.Term
	for u := api.Term(1); int(u) <= p.Len(); u++ {
		if k.Derives(u) {
			l = append(l, u)
		}
	}
	return l
}

// each calls what is asked of all who were given at most three of few terms.
func each(t *testing.T, ask func(p *term.Pool, k *deduce.Know)) {
	t.Helper()
	p := few(t)
	all := api.Term(p.Len())
	ask(p, deduce.New(p))
	for a := api.Term(1); a <= all; a++ {
		for b := api.Term(1); b <= a; b++ {
			for c := api.Term(1); c <= b; c++ {
				ask(p, knowing(t, p, []api.Term{a, b, c}))
			}
		}
	}
}

// P8.3, P8.4: what is derived is just what some proof says.
func TestJustWhatProofsSay(t *testing.T) {
	ls := laws(few(t))
	opens := opening(ls)
	each(t, func(p *term.Pool, k *deduce.Know) {
		long := p.Len()
		fits(t, p, ls, opens, k.Given())
		for _, u := range derived(p, k) {
			proven(t, p, k, u)
			l, _ := k.Proof(u)
			if why, at := judge(p, ls, k.Given(), l, u); why != api.OK {
				t.Fatalf("given %s: %v: error %d at %d", shown(p, k.Given()), l, why, at)
			}
		}
		if p.Len() != long {
			t.Fatalf("%d terms instead of %d", p.Len(), long)
		}
	})
}

// P8.3, P8.4: of many terms that look like chance.
func TestJustWhatProofsSayAny(t *testing.T) {
	d := dice(2)
	for range 400 {
		p := term.New()
		list(t, p, "k0, k1")
		for range 12 {
			of(t, p, anyText(&d, 4))
		}
		ls := laws(p)
		opens := opening(ls)
		for range 12 {
			var l []api.Term
			for range d.upTo(6) {
				l = append(l, api.Term(1+d.upTo(p.Len())))
			}
			k := fits(t, p, ls, opens, l)
			for u := api.Term(1); int(u) <= p.Len(); u++ {
				if k.Derives(u) {
					proven(t, p, k, u)
				} else {
					unproven(t, p, k, u)
				}
			}
		}
	}
}

// P8.6: whatever more is given, what was derived stays so, and what was seen.
func TestMoreIsMore(t *testing.T) {
	each(t, func(p *term.Pool, k *deduce.Know) {
		was, seen := derived(p, k), k.Seen()
		for c := api.Term(1); int(c) <= p.Len(); c++ {
			more := k.Copy()
			more.Add(c)
			for _, u := range was {
				if !more.Derives(u) {
					t.Fatalf("given %s: not derived any more: %s", shown(p, more.Given()), speak.Print(p, u))
				}
			}
			for _, u := range seen {
				if !more.Sees(u) {
					t.Fatalf("given %s: not seen any more: %s", shown(p, more.Given()), speak.Print(p, u))
				}
			}
		}
	})
}

// P8.7: giving what is derived derives nothing more.
func TestCut(t *testing.T) {
	each(t, func(p *term.Pool, k *deduce.Know) {
		was := derived(p, k)
		for _, c := range was {
			more := k.Copy()
			more.Add(c)
			if got := derived(p, more); !slices.Equal(got, was) {
				t.Fatalf("given %s: derived %s instead of %s", shown(p, more.Given()), shown(p, got), shown(p, was))
			}
		}
	})
}

// P8.8: a term is derived just if it is seen, or free, or made of terms that are derived.
func TestNormalForm(t *testing.T) {
	ls := laws(few(t))
	each(t, func(p *term.Pool, k *deduce.Know) {
		want := map[api.Term]struct{}{}
		for _, u := range k.Seen() {
			want[u] = struct{}{}
		}
		for x := range ls {
			if x.rule == api.RuleFree || x.rule == api.RuleMake && k.Derives(x.a) && (x.b == 0 || k.Derives(x.b)) {
				want[x.t] = struct{}{}
			}
		}
		if got := derived(p, k); !slices.Equal(got, rising(want)) {
			t.Fatalf("given %s: derived %s instead of %s", shown(p, k.Given()), shown(p, got), shown(p, rising(want)))
		}
	})
}

// P8.9: nobody signs for another, promises for it, or makes fakes to it, or a key.
func TestNobodySignsForAnother(t *testing.T) {
	each(t, func(p *term.Pool, k *deduce.Know) {
		for u := api.Term(1); int(u) <= p.Len(); u++ {
			n, _ := p.Node(u)
			who := n.From
			switch n.Kind {
			case api.KindFake:
				who = n.To
			case api.KindSign, api.KindProm, api.KindKey:
			default:
				continue
			}
			key, there := p.Has(api.Node{Kind: api.KindKey, From: who})
			if !(there && k.Sees(key)) && k.Derives(u) != k.Sees(u) {
				t.Fatalf("given %s: %s: Derives %t, Sees %t", shown(p, k.Given()), speak.Print(p, u), k.Derives(u), k.Sees(u))
			}
		}
	})
}

// P8.10: what derived pairs, signatures, promises and fakes show is derived.
func TestClosed(t *testing.T) {
	opens := opening(laws(few(t)))
	each(t, func(p *term.Pool, k *deduce.Know) {
		for x := range opens {
			if k.Derives(x.a) && !k.Derives(x.t) {
				t.Fatalf("given %s: derived is %s, not %s", shown(p, k.Given()), speak.Print(p, x.a), speak.Print(p, x.t))
			}
		}
	})
}

// Rule 4: two who were given the same, in the same order, tell the same, however often they are asked.
func TestSameTwice(t *testing.T) {
	d := dice(3)
	p := few(t)
	for range 200 {
		var l []api.Term
		for range 4 {
			l = append(l, api.Term(1+d.upTo(p.Len())))
		}
		one, other := knowing(t, p, l), knowing(t, p, l)
		for u := api.Term(1); int(u) <= p.Len(); u++ {
			a, _ := one.Proof(u)
			b, _ := other.Copy().Proof(u)
			if !slices.Equal(a, b) {
				t.Fatalf("given %s: %v and %v", shown(p, l), a, b)
			}
		}
	}
}
