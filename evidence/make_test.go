package evidence_test

import (
	"strconv"
	"strings"
	"testing"

	"escrow/api"
	"escrow/evidence"
	"escrow/letter"
	"escrow/speak"
	"escrow/term"
)

// P12.4: of two promises the replacement, also of the least and the greatest contracts and texts.
func TestConvert(t *testing.T) {
	for _, d := range []string{both("D"), deal(0, ""), deal(1<<64-1, strings.Repeat("\xff", api.MaxData)), deal(7, "deal"), deal(9, "instead")} {
		p := term.New()
		l := list(t, p, "p0>1("+d+")", "p1>0("+d+")")
		was := p.Len()
		makes(t, p, d, `s2(("instead" `+d+`))`)(evidence.Convert(p, l[0], l[1]))
		long := p.Len()
		makes(t, p, d, `s2(("instead" `+d+`))`)(evidence.Convert(p, l[0], l[1]))
		if p.Len() != long || long > was+3 {
			t.Errorf("%q: %d, then %d terms were added", d, long-was, p.Len()-long)
		}
		q := term.New()
		list(t, q, "p0>1("+d+")", "p1>0("+d+")", `s2(("instead" `+d+`))`)
		if q.Len() != p.Len() {
			t.Errorf("%q: %d terms instead of %d", d, p.Len(), q.Len())
		}
	}
}

// P12.5: the wish of either party, with the promises as they are.
func TestRequest(t *testing.T) {
	for _, d := range []string{both("D"), deal(0, ""), deal(1<<64-1, strings.Repeat("\xff", api.MaxData)), deal(7, "resolve")} {
		for who := range 2 {
			for _, names := range []string{"p0>1 p1>0", "f0>1 p1>0", "p0>1 f1>0", "f0>1 f1>0"} {
				a, b, _ := strings.Cut(names, " ")
				a, b = a+"("+d+")", b+"("+d+")"
				want := "s" + strconv.Itoa(who) + `(("resolve" (` + a + ` ` + b + `)))`
				p, q := term.New(), term.New()
				l := list(t, p, b, a)
				makes(t, p, want, want)(evidence.Request(p, who, l[1], l[0]))
				long := p.Len()
				makes(t, p, want, want)(evidence.Request(p, who, l[1], l[0]))
				list(t, q, a, b, want)
				if p.Len() != long || q.Len() != long {
					t.Errorf("%q: %d, then %d terms instead of %d", want, long, p.Len(), q.Len())
				}
				u, _ := p.Of(p.Tree(api.Term(long)))
				m, ok := letter.Read(p, u)
				if !ok || m.Kind != api.LetterResolve || m.From != who || m.Fake != strings.Contains(names, "f") {
					t.Errorf("%q: %v, %t", want, m, ok)
				}
			}
		}
	}
}

// promised is what the text of a promise's term tells: of whom, of which deal, whether it is a fake.
type promised struct {
	from int
	deal string
	fake bool
}

func promises() map[string]promised {
	m := map[string]promised{}
	for _, d := range []string{deal(7, "x"), deal(8, "x"), deal(7, "y"), deal(8, "y")} {
		for i, names := range []string{"p0>1", "p1>0", "f0>1", "f1>0"} {
			m[names+"("+d+")"] = promised{from: i % 2, deal: d, fake: i > 1}
		}
	}
	return m
}

// judgePair is the error of two terms by their texts ("" is no term), ErrFake passed over where it is no fault.
func judgePair(m map[string]promised, a, b string, fakes bool) api.Errno {
	x, isFirst := m[a]
	y, isSecond := m[b]
	switch {
	case a == "" || b == "":
		return api.ErrTerm
	case !isFirst || !isSecond:
		return api.ErrKind
	case !fakes && (x.fake || y.fake):
		return api.ErrFake
	case x.from != 0 || y.from != 1 || x.deal != y.deal:
		return api.ErrPair
	}
	return api.OK
}

// P12.4, P12.5: of each two terms, right and wrong in all ways: the first error, and nothing is added; or what is asked for.
func TestMakeEachPair(t *testing.T) {
	m := promises()
	p := term.New()
	all := list(t, p, append(rising(small()), none()...)...)
	all = append(all, strange(p.Len()+400)...) // more than will be made here
	met := map[api.Errno]int{}
	for _, a := range all {
		for _, b := range all {
			before := p.Len()
			x, y := speak.Print(p, a), speak.Print(p, b)
			why, wishWhy := judgePair(m, x, y, false), judgePair(m, x, y, true)
			met[why]++
			met[-wishWhy]++
			if why == api.OK {
				makes(t, p, x, `s2(("instead" `+m[x].deal+`))`)(evidence.Convert(p, a, b))
			} else {
				refused(t, x+" and "+y, why)(evidence.Convert(p, a, b))
			}
			for who := range 2 {
				if wishWhy == api.OK {
					makes(t, p, x, "s"+strconv.Itoa(who)+`(("resolve" (`+x+` `+y+`)))`)(evidence.Request(p, who, a, b))
				} else {
					refused(t, x+" and "+y, wishWhy)(evidence.Request(p, who, a, b))
				}
			}
			if wishWhy != api.OK && p.Len() != before || t.Failed() {
				t.Fatalf("%s and %s: %d terms were added", x, y, p.Len()-before)
			}
		}
	}
	for _, why := range []api.Errno{api.ErrTerm, api.ErrKind, api.ErrFake, api.ErrPair, -api.ErrTerm, -api.ErrKind, -api.ErrPair} {
		if met[why] < 50 {
			t.Errorf("error %d: only %d", why, met[why])
		}
	}
}

// P12.4, P12.5: ErrNone of a nil pool is ahead of all but the ErrArg of a wish, which is ahead of everything.
func TestMakeNoPool(t *testing.T) {
	p := term.New()
	all := append(list(t, p, both("p0>1(D)"), both("p1>0(D)"), both("f0>1(D)"), both("s0(D)")), strange(p.Len())...)
	for _, a := range all {
		for _, b := range all {
			refused(t, "no pool", api.ErrNone)(evidence.Convert(nil, a, b))
			refused(t, "an empty pool", api.ErrTerm)(evidence.Convert(term.New(), a, b))
			for who := range 2 {
				refused(t, "no pool", api.ErrNone)(evidence.Request(nil, who, a, b))
				refused(t, "an empty pool", api.ErrTerm)(evidence.Request(term.New(), who, a, b))
			}
			before := p.Len()
			for _, who := range noParties() {
				refused(t, "no party", api.ErrArg)(evidence.Request(p, who, a, b))
				refused(t, "no party, no pool", api.ErrArg)(evidence.Request(nil, who, a, b))
			}
			if p.Len() != before {
				t.Fatalf("%d terms were added", p.Len()-before)
			}
		}
	}
}

// P12.4, P12.5: ErrMany where the pool has too little room, and nothing is added then; with just enough it is made; what is there needs none.
func TestMakeFull(t *testing.T) {
	a, b := both("p0>1(D)"), both("p1>0(D)")
	instead, wish := both(`s2(("instead" D))`), both(`s1(("resolve" (p0>1(D) p1>0(D))))`)
	for _, x := range []struct {
		more []string
		need int
		want string
		call func(p *term.Pool, a, b api.Term) (api.Term, api.Errno)
	}{
		{nil, 3, instead, evidence.Convert},
		{[]string{`"instead"`}, 2, instead, evidence.Convert},
		{[]string{both(`("instead" D)`)}, 1, instead, evidence.Convert},
		{[]string{instead}, 0, instead, evidence.Convert},
		{nil, 4, wish, asks},
		{[]string{`"resolve"`}, 3, wish, asks},
		{[]string{both("(p0>1(D) p1>0(D))")}, 3, wish, asks},
		{[]string{`"resolve"`, both("(p0>1(D) p1>0(D))")}, 2, wish, asks},
		{[]string{both(`s0(("resolve" (p0>1(D) p1>0(D))))`)}, 1, wish, asks},
		{[]string{wish}, 0, wish, asks},
	} {
		for room := range x.need + 2 {
			p := filled(t, room, append([]string{a, b}, x.more...)...)
			first, second, before := of(t, p, a), of(t, p, b), p.Len()
			if room >= x.need {
				makes(t, p, "with room", x.want)(x.call(p, first, second))
				makes(t, p, "again", x.want)(x.call(p, first, second))
				if p.Len() != before+x.need {
					t.Errorf("%s: %d terms were added", x.want, p.Len()-before)
				}
				continue
			}
			for range 2 {
				refused(t, "without room", api.ErrMany)(x.call(p, first, second))
			}
			if p.Len() != before {
				t.Errorf("%s: room for %d: %d terms were added", x.want, room, p.Len()-before)
			}
		}
	}
}

func asks(p *term.Pool, a, b api.Term) (api.Term, api.Errno) {
	return evidence.Request(p, 1, a, b)
}

// P12.4, P12.5: in a full pool the errors ahead of ErrMany are told.
func TestMakeFullWrong(t *testing.T) {
	p := filled(t, 0, both("p0>1(D)"), both("p1>0(D)"), both("f0>1(D)"), both("p1>0(E)"), both("s0(D)"))
	first, second, fake, other, sign := of(t, p, both("p0>1(D)")), of(t, p, both("p1>0(D)")), of(t, p, both("f0>1(D)")), of(t, p, both("p1>0(E)")), of(t, p, both("s0(D)"))
	for _, x := range []struct {
		a, b       api.Term
		why, again api.Errno
	}{
		{first, second, api.ErrMany, api.ErrMany}, {fake, second, api.ErrFake, api.ErrMany}, {first, other, api.ErrPair, api.ErrPair}, {second, first, api.ErrPair, api.ErrPair}, {fake, other, api.ErrFake, api.ErrPair}, {first, first, api.ErrPair, api.ErrPair},
		{sign, fake, api.ErrKind, api.ErrKind}, {fake, sign, api.ErrKind, api.ErrKind}, {sign, 0, api.ErrTerm, api.ErrTerm}, {api.MaxTerms + 1, sign, api.ErrTerm, api.ErrTerm},
	} {
		refused(t, "Convert", x.why)(evidence.Convert(p, x.a, x.b))
		refused(t, "Request", x.again)(evidence.Request(p, 0, x.a, x.b))
		refused(t, "Request of none", api.ErrArg)(evidence.Request(p, 2, x.a, x.b))
	}
	if p.Len() != api.MaxTerms {
		t.Errorf("%d terms", p.Len())
	}
}
