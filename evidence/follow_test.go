package evidence_test

import (
	"slices"
	"strconv"
	"strings"
	"testing"

	"escrow/api"
	"escrow/deduce"
	"escrow/evidence"
	"escrow/letter"
	"escrow/speak"
	"escrow/term"
)

// anyList are terms by chance, of these texts of letters and of others.
func anyList(t *testing.T, d *dice, p *term.Pool, letters, others []string) []api.Term {
	t.Helper()
	var l []api.Term
	for range d.upTo(6) {
		l = append(l, of(t, p, anyText(d, letters, others, d.upTo(3))))
	}
	return l
}

// P12.6: promises, fakes, wishes and tokens bind nobody, however many are seen, and in whatever they stand.
func TestNobodyIsBound(t *testing.T) {
	var letters []string
	for _, text := range rising(small()) {
		l, _ := letter.Read(parsed(t, text))
		switch l.Kind {
		case api.LetterPromise, api.LetterResolve, api.LetterToken:
			letters = append(letters, text)
		}
	}
	p := term.New()
	all := list(t, p, letters...)
	d := dice(4)
	lists := [][]api.Term{all}
	for range 500 {
		lists = append(lists, anyList(t, &d, p, letters, []string{"#7", "k0", "n1", both("h(s0(D))"), both("s2(D)"), both("(s3(D) D)")}))
	}
	for _, l := range lists {
		for _, f := range evidence.All(p, l) {
			if f.Kind == api.FactBound {
				t.Fatalf("%s: %s", shown(p, l), tell([]api.Fact{f}))
			}
		}
	}
	if len(evidence.All(p, all)) != 18 { // of four deals two promises and two wishes each, and of two contracts a token
		t.Errorf("%s", tell(evidence.All(p, all)))
	}
}

// parsed is the term of a text, in a pool of its own.
func parsed(t *testing.T, text string) (*term.Pool, api.Term) {
	t.Helper()
	p := term.New()
	return p, of(t, p, text)
}

// P12.7: who is bound is just who signed a deal that is seen, or both, where a replacement of it is seen.
func TestWhoBinds(t *testing.T) {
	d := dice(5)
	letters, others := rising(small()), none()
	var met [2]int
	for range 1500 {
		p := term.New()
		l := anyList(t, &d, p, letters, others)
		found := evidence.All(p, l)
		texts := said(p, l)
		for _, c := range []uint64{7, 8} {
			for _, s := range []string{"x", "y"} {
				replaced := slices.Contains(texts, `s2(("instead" `+deal(c, s)+`))`)
				for who := range 2 {
					want := replaced || slices.Contains(texts, "s"+strconv.Itoa(who)+"("+deal(c, s)+")")
					bond := api.Fact{Kind: api.FactBound, Who: who, C: c, Text: s}
					if slices.Contains(found, bond) != want {
						t.Fatalf("%s: not %t of %s", shown(p, l), want, tell([]api.Fact{bond}))
					}
					if want {
						met[who]++
					}
				}
			}
		}
		for who := 2; who < api.MaxNames; who++ {
			facts(t, "of another", evidence.Bonds(found, who), nil)
		}
	}
	if min(met[0], met[1]) < 200 {
		t.Errorf("%v", met)
	}
}

// P12.8: of more terms there are all facts of fewer; of what is seen in them just the same; their order has no part in it.
func TestMoreIsMore(t *testing.T) {
	d := dice(6)
	letters, others := rising(small()), none()
	for range 1000 {
		p := term.New()
		l := anyList(t, &d, p, letters, others)
		whole := evidence.All(p, l)
		for n := range l {
			for _, f := range evidence.All(p, l[:n]) {
				if !slices.Contains(whole, f) {
					t.Fatalf("%s: %s is lost", shown(p, l), tell([]api.Fact{f}))
				}
			}
		}
		k := deduce.New(p)
		for _, u := range l {
			k.Add(u)
		}
		facts(t, "what is seen in "+shown(p, l), evidence.All(p, k.Seen()), whole)
		slices.Reverse(l)
		facts(t, "from behind "+shown(p, l), evidence.All(p, append(l, l...)), whole)
	}
}

// P12.9: what Convert makes binds both parties to the same contract and text, and is made just where a wish with the same two has no fake.
func TestBothOrNone(t *testing.T) {
	p := term.New()
	all := list(t, p, append(rising(small()), none()...)...)
	made := 0
	for _, a := range all {
		for _, b := range all {
			u, why := evidence.Convert(p, a, b)
			w, wishWhy := evidence.Request(p, 0, a, b)
			l, ok := letter.Read(p, w)
			whole := ok && wishWhy == api.OK && l.Kind == api.LetterResolve && !l.Fake
			if whole != (why == api.OK) {
				t.Fatalf("%s and %s: error %d, and %v, %t, error %d", speak.Print(p, a), speak.Print(p, b), why, l, ok, wishWhy)
			}
			if !whole {
				continue
			}
			made++
			for who := range 2 {
				if !evidence.Binds(p, u, who, l.C, l.Text) || len(evidence.Bonds(evidence.Of(p, u), who)) != 1 {
					t.Errorf("%s does not bind %d, or to more than one text", speak.Print(p, u), who)
				}
			}
			if !strings.HasSuffix(speak.Print(p, a), speak.Print(p, b)[4:]) {
				t.Errorf("%s and %s are of unlike deals", speak.Print(p, a), speak.Print(p, b))
			}
		}
	}
	if made != 4 {
		t.Errorf("%d were made", made)
	}
}

// P12.2 to P12.5: what is answered is the same each time, whatever was made in the pool ahead.
func TestSameEachTime(t *testing.T) {
	d := dice(7)
	letters, others := rising(small()), none()
	for range 200 {
		p, q := term.New(), term.New()
		list(t, q, letters...)
		l := anyList(t, &d, p, letters, others)
		var m []api.Term
		for _, u := range l {
			v, why := q.Copy(p, u)
			if why != api.OK {
				t.Fatalf("error %d", why)
			}
			m = append(m, v)
		}
		facts(t, shown(p, l), evidence.All(q, m), evidence.All(p, l))
		facts(t, shown(p, l), evidence.All(p, l), evidence.All(p, l))
	}
}
