package letter_test

import (
	"strings"
	"testing"

	"escrow/api"
	"escrow/letter"
	"escrow/speak"
	"escrow/term"
)

// P11.1: the pair of the datum deal and of the pair of number and text.
func TestDeal(t *testing.T) {
	p := term.New()
	makes(t, p, "7 x", deal7)(letter.Deal(p, 7, "x"))
	makes(t, p, "0 none", deal0)(letter.Deal(p, 0, ""))
	makes(t, p, "the most", `("deal" (#18446744073709551615 "\xff\x00\"\\"))`)(letter.Deal(p, 1<<64-1, "\xff\x00\"\\"))
	makes(t, p, "its own word", `("deal" (#7 "deal"))`)(letter.Deal(p, 7, "deal"))
	long := strings.Repeat("y", api.MaxData)
	makes(t, p, "the longest", `("deal" (#7 "`+long+`"))`)(letter.Deal(p, 7, long))
}

// P11.1: made as Of of its tree: its terms stand in the pool in the same order, each once.
func TestDealInPool(t *testing.T) {
	for _, ahead := range []string{`#1`, `"x"`, `("x" "deal")`, deal0, deal7} {
		for _, c := range []uint64{0, 7} {
			for _, s := range []string{"", "x", "deal"} {
				p, q := term.New(), term.New()
				of(t, p, ahead)
				of(t, q, ahead)
				u, why := letter.Deal(p, c, s)
				v, _ := q.Of(treeOf(t, spellings(api.Letter{Kind: 2, C: c, Text: s})[0]).Kids[0])
				if u != v || why != api.OK {
					t.Errorf("%d %q: %d, error %d instead of %d", c, s, u, why, v)
				}
				samePools(t, ahead, p, q)
			}
		}
	}
}

// P11.1: ErrLong ahead of the others, and ErrArg of no pool.
func TestDealWrong(t *testing.T) {
	p, full := term.New(), filled(t, nil, 0)
	for _, long := range []int{api.MaxData + 1, api.MaxData + 2, 256, 5000} {
		s := strings.Repeat("x", long)
		refused(t, "long", api.ErrLong)(letter.Deal(p, 7, s))
		refused(t, "long, full", api.ErrLong)(letter.Deal(full, 7, s))
		refused(t, "long, nil", api.ErrLong)(letter.Deal(nil, 7, s))
	}
	refused(t, "nil", api.ErrArg)(letter.Deal(nil, 7, "x"))
	refused(t, "nil", api.ErrArg)(letter.Deal(nil, 0, strings.Repeat("x", api.MaxData)))
	if p.Len() != 0 {
		t.Errorf("%d terms were added", p.Len())
	}
}

// P11.1: without room ErrMany, and nothing is added; what is there already needs none.
func TestDealFull(t *testing.T) {
	for room := range 7 {
		p := filled(t, nil, room)
		was := p.Len()
		if room >= 5 {
			makes(t, p, "room", deal7)(letter.Deal(p, 7, "x"))
			continue
		}
		refused(t, "no room", api.ErrMany)(letter.Deal(p, 7, "x"))
		if p.Len() != was {
			t.Errorf("room for %d: %d terms were added", room, p.Len()-was)
		}
	}
	p := filled(t, []string{deal7}, 0)
	makes(t, p, "there", deal7)(letter.Deal(p, 7, "x"))
	refused(t, "another", api.ErrMany)(letter.Deal(p, 8, "x"))
}

// P11.1: ReadDeal tells number and text of a deal.
func TestReadDeal(t *testing.T) {
	p := term.New()
	for _, c := range numbers() {
		for _, s := range texts() {
			u, _ := letter.Deal(p, c, s)
			was := p.Len()
			if d, text, ok := letter.ReadDeal(p, u); d != c || text != s || !ok || p.Len() != was {
				t.Errorf("%d %q: %d %q %t", c, s, d, text, ok)
			}
		}
	}
}

// notDeal fails if ReadDeal takes a term.
func notDeal(t *testing.T, p *term.Pool, u api.Term) {
	t.Helper()
	if c, s, ok := letter.ReadDeal(p, u); c != 0 || s != "" || ok {
		t.Errorf("%d, %s: %d %q %t", u, speak.Print(p, u), c, s, ok)
	}
}

// P11.1: ReadDeal of whatever is unlike a deal in one node.
func TestReadDealWrong(t *testing.T) {
	p := term.New()
	for _, text := range []string{`"deal"`, `#7`, `n0`, `k0`, `(#7 "x")`, `("x" (#7 "deal"))`, `("deal" ("x" #7))`, `((#7 "x") "deal")`, `("deal" #7)`, `("deal" "x")`, `(("deal" #7) "x")`, `("deal" (#7 n0))`, `("deal" (n0 "x"))`, `("deal" (k0 "x"))`, `("deal" (h(#7) "x"))`, `("deal" h(#7))`, `("deal" (#7 ("x" "x")))`, `("deals" (#7 "x"))`, `("" (#7 "x"))`, `(n0 (#7 "x"))`, `(h("deal") (#7 "x"))`, `("abort" (#7 "x"))`, `h("deal")`, `h(` + deal7 + `)`, `s0(` + deal7 + `)`, `p0>1(` + deal7 + `)`, `("deal" ` + deal7 + `)`, `("deal" (#7 "x"))`} {
		if u := of(t, p, text); text != deal7 {
			notDeal(t, p, u)
		}
	}
	x := treeOf(t, deal7)
	for _, y := range neighbours(t, x) {
		u := of(t, p, spell(y))
		l, ok := judge(api.Tree{Kind: api.KindSign, Kids: []api.Tree{y}})
		c, s, is := letter.ReadDeal(p, u)
		if ok = ok && l.Kind == api.LetterSign; is != ok || ok && (c != l.C || s != l.Text) || !ok && (c != 0 || s != "") {
			t.Errorf("%s: %d %q %t", spell(y), c, s, is)
		}
	}
	for _, u := range strange(p.Len()) {
		notDeal(t, p, u)
		notDeal(t, nil, u)
	}
	for u := range api.Term(3) {
		notDeal(t, nil, u)
		notDeal(t, term.New(), u)
	}
}

// P11.3: each letter's term, put down by hand.
func TestBuild(t *testing.T) {
	p := term.New()
	for _, x := range samples() {
		makes(t, p, tell(x.l), x.term)(letter.Build(p, x.l))
		u, _ := letter.Build(p, x.l)
		was := p.Len()
		if v, why := letter.Build(p, x.l); v != u || why != api.OK || p.Len() != was {
			t.Errorf("%s: %d, error %d the second time instead of %d", tell(x.l), v, why, u)
		}
	}
}

// P11.3: of all letters of many numbers and texts, made as Of of the tree.
func TestBuildInPool(t *testing.T) {
	p, q := term.New(), term.New()
	for _, l := range letters(numbers(), texts()) {
		makes(t, p, tell(l), spellings(l)[0])(letter.Build(p, l))
		of(t, q, spellings(l)[0])
	}
	samePools(t, "all", p, q)
	for _, x := range samples() {
		for _, ahead := range []string{`"x"`, `#7`, deal7, `("aborted" "full")`, `p1>0(` + deal7 + `)`} {
			p, q := term.New(), term.New()
			of(t, p, ahead)
			of(t, q, ahead)
			u, _ := letter.Build(p, x.l)
			if v := of(t, q, x.term); u != v {
				t.Errorf("%s behind %s: %d instead of %d", x.term, ahead, u, v)
			}
			samePools(t, x.term, p, q)
		}
	}
}

// P11.3: Check's error, ahead of that of no pool and of a full one; nothing is added.
func TestBuildWrong(t *testing.T) {
	p, full := term.New(), filled(t, nil, 0)
	for _, x := range wrongs() {
		for _, q := range []*term.Pool{p, full, nil} {
			refused(t, tell(x.l), x.why)(letter.Build(q, x.l))
		}
	}
	for _, x := range samples() {
		refused(t, tell(x.l), api.ErrArg)(letter.Build(nil, x.l))
		refused(t, tell(x.l), api.ErrMany)(letter.Build(full, x.l))
	}
	if p.Len() != 0 {
		t.Errorf("%d terms were added", p.Len())
	}
}

// P11.3: with too little room nothing is added; with just enough it is.
func TestBuildFull(t *testing.T) {
	for _, x := range oneEach() {
		q := term.New()
		of(t, q, x.term)
		for room := q.Len() - 1; room <= q.Len(); room++ {
			p := filled(t, nil, room)
			was := p.Len()
			if room == q.Len() {
				makes(t, p, x.term, x.term)(letter.Build(p, x.l))
				makes(t, p, x.term, x.term)(letter.Build(p, x.l))
				continue
			}
			refused(t, x.term, api.ErrMany)(letter.Build(p, x.l))
			if p.Len() != was {
				t.Errorf("%s, room for %d: %d terms were added", x.term, room, p.Len()-was)
			}
		}
	}
}
