package arbiter_test

import (
	"slices"
	"testing"

	"escrow/api"
	"escrow/arbiter"
	"escrow/term"
)

// found are who is bound and what faults there are, without places, each once.
func found(p *term.Pool, l []exhibit) (map[api.Claim]int, map[api.Fault]int) {
	bound, faults := map[api.Claim]int{}, map[api.Fault]int{}
	for _, b := range arbiter.Bonds(p, shown(l)) {
		bound[claim(b)]++
	}
	for _, f := range arbiter.Faults(p, shown(l)) {
		faults[charge(f)]++
	}
	return bound, faults
}

// within fails if not all of some are among others, each once.
func within[T comparable](t *testing.T, what string, less, more map[T]int) {
	t.Helper()
	for x, n := range less {
		if n != 1 || more[x] != 1 {
			t.Fatalf("%s: %v is told %d times, then %d times", what, x, n, more[x])
		}
	}
}

// P13.8: what is put in anywhere unbinds nobody, and takes away no fault; shuffled, just the same are bound, by just the same faults.
func TestMoreIsMore(t *testing.T) {
	p := term.New()
	d := dice(2)
	for range 3000 {
		l, more := some(t, &d, p, 12), some(t, &d, p, 6)
		bound, faults := found(p, l)
		all := slices.Clone(l)
		for _, x := range more {
			all = slices.Insert(all, d.upTo(len(all)+1), x)
		}
		b, f := found(p, all)
		within(t, lines(l)+" in "+lines(all), bound, b)
		within(t, lines(l)+" in "+lines(all), faults, f)
		for i := range all {
			j := d.upTo(i + 1)
			all[i], all[j] = all[j], all[i]
		}
		shuffledB, shuffledF := found(p, all)
		within(t, lines(all), shuffledB, b)
		within(t, lines(all), shuffledF, f)
		if len(shuffledB) != len(b) || len(shuffledF) != len(f) {
			t.Fatalf("%s: %v, %v instead of %v, %v", lines(all), shuffledB, shuffledF, b, f)
		}
	}
}

// P13.9: whom Judge finds bound has a Bond, with the same reason, and the other way round.
func TestJudgeAndBonds(t *testing.T) {
	p := term.New()
	d := dice(3)
	bound := 0
	for range 2000 {
		l := some(t, &d, p, 20)
		bonds := arbiter.Bonds(p, shown(l))
		judged := 0
		for _, c := range claims() {
			r := arbiter.Judge(p, shown(l), c)
			b := api.Bond{Who: c.Who, C: c.C, Text: c.Text, Why: r.Why, By: r.By}
			if slices.Contains(bonds, b) != r.Bound {
				t.Fatalf("%s, of %v: %v, and %v", lines(l), c, r, bonds)
			}
			if r.Bound {
				judged++
			}
		}
		if judged != len(bonds) {
			t.Fatalf("%s: %d are bound of %v", lines(l), judged, bonds)
		}
		bound += judged
	}
	if bound < 3000 {
		t.Errorf("only %d were bound", bound)
	}
}

// P13.9: without its FaultTexts and a FaultTwo a party is bound to two texts of a contract at most, and without a replacement to one.
func TestFewTexts(t *testing.T) {
	p := term.New()
	met := map[int]int{}
	each(bring(t, p, docketOf7()[:8]...), 4, func(l []exhibit) {
		replaced := slices.ContainsFunc(l, func(x exhibit) bool { return x.says.Kind == api.LetterInstead })
		_, faults := found(p, l)
		for who := range 2 {
			texts, two := api.Fault{Who: who, C: 7, Kind: api.FaultTexts}, api.Fault{Who: api.Notary, C: 7, Kind: api.FaultTwo}
			if faults[texts]+faults[two] > 0 {
				continue
			}
			n := len(arbiter.Texts(p, shown(l), who, 7))
			if n > 2 || n > 1 && !replaced {
				t.Fatalf("%s: %d is bound to %d texts", lines(l), who, n)
			}
			met[n]++
		}
	})
	if min(met[0], met[1], met[2]) < 50 {
		t.Errorf("%v", met)
	}
}
