package evidence_test

import (
	"math"
	"slices"
	"strings"
	"testing"

	"escrow/api"
	"escrow/evidence"
	"escrow/letter"
	"escrow/speak"
	"escrow/term"
)

// P12.1: each row of the table, put down by hand, in the order in which the facts stand there.
func TestOf(t *testing.T) {
	top := uint64(math.MaxUint64)
	for _, x := range []struct {
		text string
		want []api.Fact
	}{
		{"p0>1(D)", []api.Fact{{Kind: 1, Who: 0, C: 7, Text: "x"}}},
		{"p1>0(D)", []api.Fact{{Kind: 1, Who: 1, C: 7, Text: "x"}}},
		{"f0>1(D)", nil},
		{"f1>0(D)", nil},
		{"s0(D)", []api.Fact{{Kind: 2, Who: 0, C: 7, Text: "x"}}},
		{"s1(D)", []api.Fact{{Kind: 2, Who: 1, C: 7, Text: "x"}}},
		{`s0(("abort" #7))`, []api.Fact{{Kind: 3, Who: 0, C: 7}}},
		{`s0(("abort" #0))`, []api.Fact{{Kind: 3}}},
		{`s0(("resolve" (p0>1(D) p1>0(D))))`, []api.Fact{{Kind: 4, Who: 0, C: 7, Text: "x"}, {Kind: 1, Who: 0, C: 7, Text: "x"}, {Kind: 1, Who: 1, C: 7, Text: "x"}}},
		{`s1(("resolve" (p0>1(D) p1>0(D))))`, []api.Fact{{Kind: 4, Who: 1, C: 7, Text: "x"}, {Kind: 1, Who: 0, C: 7, Text: "x"}, {Kind: 1, Who: 1, C: 7, Text: "x"}}},
		{`s0(("resolve" (f0>1(D) p1>0(D))))`, []api.Fact{{Kind: 4, Who: 0, C: 7, Text: "x"}}},
		{`s0(("resolve" (p0>1(D) f1>0(D))))`, []api.Fact{{Kind: 4, Who: 0, C: 7, Text: "x"}}},
		{`s1(("resolve" (f0>1(D) f1>0(D))))`, []api.Fact{{Kind: 4, Who: 1, C: 7, Text: "x"}}},
		{`s2(("aborted" #7))`, []api.Fact{{Kind: 5, Who: 2, C: 7}}},
		{`s2(("aborted" #18446744073709551615))`, []api.Fact{{Kind: 5, Who: 2, C: top}}},
		{`s2(("instead" D))`, []api.Fact{{Kind: 6, Who: 2, C: 7, Text: "x"}, {Kind: 2, Who: 0, C: 7, Text: "x"}, {Kind: 2, Who: 1, C: 7, Text: "x"}}},
		{`("full" #7)`, nil},
		{`s1(("deal" (#0 "")))`, []api.Fact{{Kind: 2, Who: 1}}},
		{"s0(" + deal(top, strings.Repeat("z", api.MaxData)) + ")", []api.Fact{{Kind: 2, Who: 0, C: top, Text: strings.Repeat("z", 64)}}},
	} {
		p := term.New()
		u := of(t, p, both(x.text))
		long := p.Len()
		facts(t, x.text, evidence.Of(p, u), x.want)
		facts(t, x.text, evidence.Of(p, u), x.want)
		if p.Len() != long {
			t.Errorf("%s: %d terms were added", x.text, p.Len()-long)
		}
	}
}

// P12.1: of all letters of many contracts and texts, in one pool.
func TestOfEachLetter(t *testing.T) {
	p := term.New()
	m := table([]uint64{0, 1, 7, 1 << 32, math.MaxUint64}, []string{"", "x", "deal", "resolve", "\x00\xff\"", strings.Repeat("é", 32)})
	for text, want := range m {
		u := of(t, p, text)
		if _, ok := letter.Read(p, u); !ok {
			t.Fatalf("%s is no letter", text)
		}
		facts(t, text, evidence.Of(p, u), want)
	}
}

// P12.1: of no letter's term, of no term, and of no pool there are none.
func TestOfNone(t *testing.T) {
	p := term.New()
	for _, text := range none() {
		facts(t, text, evidence.Of(p, of(t, p, text)), nil)
	}
	u := of(t, p, both("s0(D)"))
	for _, v := range strange(p.Len()) {
		facts(t, "no term", evidence.Of(p, v), nil)
		facts(t, "no pool", evidence.Of(nil, v), nil)
		facts(t, "an empty pool", evidence.Of(term.New(), v), nil)
	}
	facts(t, "no pool", evidence.Of(nil, u), nil)
	facts(t, "an empty pool", evidence.Of(term.New(), u), nil)
}

// P12.1: of terms by chance, just those that are letters' have facts, and whatever stands within has no part in that.
func TestOfAny(t *testing.T) {
	d := dice(1)
	m := small()
	letters, others := rising(m), none()
	p := term.New()
	for range 4000 {
		text := anyText(&d, letters, others, 3)
		facts(t, text, evidence.Of(p, of(t, p, text)), m[text])
	}
}

// P12.2: by hand: what is seen in terms, each fact once, in order; what is hashed is not seen.
func TestAll(t *testing.T) {
	wished := []api.Fact{{Kind: 1, Who: 0, C: 7, Text: "x"}, {Kind: 1, Who: 1, C: 7, Text: "x"}, {Kind: 4, Who: 1, C: 7, Text: "x"}}
	for _, x := range []struct {
		texts []string
		want  []api.Fact
	}{
		{nil, nil},
		{[]string{"D", "#7", "f0>1(D)", `("full" #7)`, "k0"}, nil},
		{[]string{`s0(("resolve" (p0>1(D) f1>0(D))))`}, []api.Fact{{Kind: 1, Who: 0, C: 7, Text: "x"}, {Kind: 4, Who: 0, C: 7, Text: "x"}}},
		{[]string{`s0(("resolve" (f0>1(D) p1>0(D))))`}, []api.Fact{{Kind: 1, Who: 1, C: 7, Text: "x"}, {Kind: 4, Who: 0, C: 7, Text: "x"}}},
		{[]string{`s0(("resolve" (f0>1(D) f1>0(D))))`}, []api.Fact{{Kind: 4, Who: 0, C: 7, Text: "x"}}},
		{[]string{`s1(("resolve" (p0>1(D) p1>0(D))))`}, wished},
		{[]string{`s1(("resolve" (p0>1(D) p1>0(D))))`, "p1>0(D)", `s1(("resolve" (p0>1(D) p1>0(D))))`, "p0>1(D)"}, wished},
		{[]string{`s1(("resolve" (p0>1(D) p1>0(D))))`, `s0(("abort" #3))`}, append([]api.Fact{{Kind: 3, C: 3}}, wished...)},
		{[]string{`s2(("instead" D))`}, []api.Fact{{Kind: 2, Who: 0, C: 7, Text: "x"}, {Kind: 2, Who: 1, C: 7, Text: "x"}, {Kind: 6, Who: 2, C: 7, Text: "x"}}},
		{[]string{`s2(("instead" D))`, "s1(D)", "s0(D)"}, []api.Fact{{Kind: 2, Who: 0, C: 7, Text: "x"}, {Kind: 2, Who: 1, C: 7, Text: "x"}, {Kind: 6, Who: 2, C: 7, Text: "x"}}},
		{[]string{"s1(E)", "s1(Y)", "s0(E)", "s1(D)", "p1>0(E)", "s0(Y)"}, []api.Fact{{Kind: 2, Who: 0, C: 7, Text: "y"}, {Kind: 2, Who: 1, C: 7, Text: "x"}, {Kind: 2, Who: 1, C: 7, Text: "y"}, {Kind: 1, Who: 1, C: 8, Text: "x"}, {Kind: 2, Who: 0, C: 8, Text: "x"}, {Kind: 2, Who: 1, C: 8, Text: "x"}}},
		{[]string{"h(s0(D))", "(n1 h((s1(D) #1)))"}, nil},
		{[]string{"(n1 (#1 s0(D)))"}, []api.Fact{{Kind: 2, Who: 0, C: 7, Text: "x"}}},
		{[]string{"(s0(D) n1)"}, []api.Fact{{Kind: 2, Who: 0, C: 7, Text: "x"}}},
		{[]string{"s3(s0(D))"}, []api.Fact{{Kind: 2, Who: 0, C: 7, Text: "x"}}},
		{[]string{"p3>4(s0(D))"}, []api.Fact{{Kind: 2, Who: 0, C: 7, Text: "x"}}},
		{[]string{"f3>4(s0(D))"}, []api.Fact{{Kind: 2, Who: 0, C: 7, Text: "x"}}},
		{[]string{"h(s0(D))", "s0(D)"}, []api.Fact{{Kind: 2, Who: 0, C: 7, Text: "x"}}},
		{[]string{"s0(h(D))", "h(p0>1(D))", "k0", "k1", "D"}, nil}, // what could be made is not seen
	} {
		p := term.New()
		var l []api.Term
		for _, text := range x.texts {
			l = append(l, of(t, p, both(text)))
		}
		long := p.Len()
		facts(t, shown(p, l), evidence.All(p, l), x.want)
		slices.Reverse(l)
		facts(t, shown(p, l), evidence.All(p, l), x.want)
		if p.Len() != long {
			t.Errorf("%s: %d terms were added", shown(p, l), p.Len()-long)
		}
	}
}

// P12.2: what is no term of the pool is passed over, wherever it stands; a nil pool has no terms.
func TestAllNoTerms(t *testing.T) {
	p := term.New()
	l := list(t, p, both("s1(D)"), both("p0>1(D)"))
	want := []api.Fact{{Kind: 1, Who: 0, C: 7, Text: "x"}, {Kind: 2, Who: 1, C: 7, Text: "x"}}
	for _, u := range strange(p.Len()) {
		for at := range len(l) + 1 {
			facts(t, "among others", evidence.All(p, slices.Insert(slices.Clone(l), at, u, u)), want)
		}
	}
	facts(t, "these alone", evidence.All(p, strange(p.Len())), nil)
	facts(t, "no pool", evidence.All(nil, append(strange(0), l...)), nil)
	facts(t, "no pool, no terms", evidence.All(nil, nil), nil)
	facts(t, "an empty pool", evidence.All(term.New(), l), nil)
}

// P12.2: of lists by chance, what the test's own judge tells.
func TestAllAny(t *testing.T) {
	d := dice(2)
	m := small()
	letters, others := rising(m), none()
	longest := 0
	for range 1500 {
		p := term.New()
		var l []api.Term
		for range d.upTo(7) {
			u := of(t, p, anyText(&d, letters, others, d.upTo(4)))
			l = append(l, u, api.Term(d.upTo(int(u)+3)))
		}
		want := judgeAll(m, p, l)
		facts(t, shown(p, l), evidence.All(p, l), want)
		longest = max(longest, len(want))
	}
	if longest < 10 {
		t.Errorf("at most %d facts", longest)
	}
}

// P12.2: of the greatest pool and of the largest terms, all.
func TestAllLargest(t *testing.T) {
	wide := both("s0(D)")
	for range 8 {
		wide = "(" + wide + " " + wide + ")"
	}
	deep := strings.Repeat("s3(", 58) + both("s1(E)") + strings.Repeat(")", 58)
	p := filled(t, 0, wide, deep)
	var l []api.Term
	for u := api.Term(p.Len()); u >= 1; u-- {
		l = append(l, u)
	}
	want := []api.Fact{{Kind: 2, Who: 0, C: 7, Text: "x"}, {Kind: 2, Who: 1, C: 8, Text: "x"}}
	facts(t, "all terms", evidence.All(p, l), want)
	facts(t, "two", evidence.All(p, []api.Term{of(t, p, deep), of(t, p, wide)}), want)
}

// P12.2: by C, then Kind, Who, Text: each field weighs more than all behind it, as the numbers and bytes that they are.
func TestCompare(t *testing.T) {
	top := uint64(math.MaxUint64)
	row := []api.Fact{
		{Kind: math.MinInt, Who: 9, Text: "z"}, {Kind: -1, Who: 9, Text: "z"}, {}, {Text: "\x00"}, {Text: "Z"}, {Text: "a"}, {Text: "a\x00"}, {Text: "b"}, {Text: "ba"}, {Text: "\x7f"}, {Text: "\x80"}, {Text: "é"}, {Text: "\xff"},
		{Who: 1}, {Who: 2}, {Who: 10}, {Who: math.MaxInt}, {Kind: 1, Who: math.MinInt}, {Kind: 1, Who: -1, Text: "z"}, {Kind: 1}, {Kind: 1, Text: "a"}, {Kind: 1, Who: 1}, {Kind: 2}, {Kind: 6}, {Kind: 10}, {Kind: math.MaxInt, Who: 9, Text: "z"},
		{Kind: math.MinInt, C: 1}, {Kind: 1, C: 1}, {C: 2}, {C: 10}, {C: 1<<63 - 1}, {C: 1 << 63}, {C: top - 1, Kind: 6, Who: 2, Text: "z"}, {C: top}, {C: top, Text: "a"}, {C: top, Who: 1}, {C: top, Kind: 1},
	}
	for i, a := range row {
		for j, b := range row {
			want := 0
			if i < j {
				want = -1
			} else if i > j {
				want = 1
			}
			if got := evidence.Compare(a, b); got != want {
				t.Errorf("%s: %d instead of %d", tell([]api.Fact{a, b}), got, want)
			}
		}
	}
}

// P12.2: a total order of all facts, which the test's own order is.
func TestCompareAny(t *testing.T) {
	d := dice(3)
	some := func() api.Fact {
		return api.Fact{Kind: d.upTo(3) - 1, Who: d.upTo(3) - 1, C: uint64(d.upTo(3)) << 62, Text: []string{"", "a", "b", "ab", "\xff"}[d.upTo(5)]}
	}
	for range 5000 {
		a, b := some(), some()
		want := 0
		switch {
		case ahead(a, b):
			want = -1
		case ahead(b, a):
			want = 1
		}
		if got := evidence.Compare(a, b); got != want || want == 0 && a != b {
			t.Fatalf("%s: %d instead of %d", tell([]api.Fact{a, b}), got, want)
		}
	}
}

// P12.3: by hand, each answer of Why.
func TestWhy(t *testing.T) {
	for _, x := range []struct {
		text string
		who  int
		c    uint64
		s    string
		want int
	}{
		{`s2(("instead" D))`, 0, 7, "x", 0}, {`s2(("instead" D))`, 1, 7, "x", 0}, {"s0(D)", 0, 7, "x", 0}, {"s1(D)", 1, 7, "x", 0}, {`s1(("deal" (#0 "")))`, 1, 0, "", 0},
		{"D", 0, 7, "x", 1}, {"s2(D)", 2, 7, "x", 1}, {"s3(D)", 3, 7, "x", 1}, {"h(s0(D))", 0, 7, "x", 1}, {"(s0(D) s1(D))", 0, 7, "x", 1}, {"(s0(D) n0)", 0, 7, "x", 1}, {"s3(s0(D))", 0, 7, "x", 1}, {`s0(("instead" D))`, 0, 7, "x", 1}, {"p0>2(D)", 0, 7, "x", 1}, {"k0", 0, 7, "x", 1},
		{"p0>1(D)", 0, 7, "x", 2}, {"p1>0(D)", 0, 7, "x", 2}, {"f0>1(D)", 0, 7, "x", 2}, {`s0(("abort" #7))`, 0, 7, "", 2}, {`s0(("resolve" (p0>1(D) p1>0(D))))`, 0, 7, "x", 2}, {`s0(("resolve" (f0>1(D) f1>0(D))))`, 0, 7, "x", 2}, {`s2(("aborted" #7))`, 0, 7, "", 2}, {`s2(("aborted" #7))`, 2, 7, "", 2}, {`("full" #7)`, 0, 7, "", 2}, {"p0>1(D)", 3, 8, "y", 2},
		{"s1(D)", 0, 7, "x", 3}, {"s0(D)", 1, 7, "x", 3}, {"s0(D)", 2, 7, "x", 3}, {`s2(("instead" D))`, 2, 7, "x", 3}, {`s2(("instead" D))`, -1, 7, "x", 3}, {"s0(D)", 1, 8, "y", 3}, {`s2(("instead" D))`, 3, 8, "y", 3},
		{`s2(("instead" D))`, 0, 8, "x", 4}, {`s2(("instead" D))`, 1, 8, "x", 4}, {"s0(D)", 0, 8, "x", 4}, {"s0(D)", 0, 8, "y", 4}, {"s1(D)", 1, 0, "", 4}, {"s1(D)", 1, 7 + 1<<32, "x", 4},
		{`s2(("instead" D))`, 0, 7, "y", 5}, {`s2(("instead" D))`, 1, 7, "y", 5}, {"s0(D)", 0, 7, "", 5}, {"s0(D)", 0, 7, "X", 5}, {"s0(D)", 0, 7, "x\x00", 5}, {"s1(D)", 1, 7, strings.Repeat("x", 5000), 5},
	} {
		p := term.New()
		u := of(t, p, both(x.text))
		if got := evidence.Why(p, u, x.who, x.c, x.s); got != x.want {
			t.Errorf("%s, of %d, %d %q: %d instead of %d", x.text, x.who, x.c, x.s, got, x.want)
		}
		if got := evidence.Binds(p, u, x.who, x.c, x.s); got != (x.want == 0) {
			t.Errorf("%s, of %d, %d %q: Binds %t", x.text, x.who, x.c, x.s, got)
		}
	}
}

// judgeWhy is what Why should tell of a letter with these facts.
func judgeWhy(l []api.Fact, isLetter bool, who int, c uint64, text string) int {
	best := 2
	for _, f := range l {
		switch {
		case f.Kind != 2:
		case f.Who != who:
			best = max(best, 3)
		case f.C != c:
			best = max(best, 4)
		case f.Text != text:
			best = max(best, 5)
		default:
			best = 6
		}
	}
	switch {
	case !isLetter:
		return 1
	case best == 6:
		return 0
	}
	return best
}

// P12.3: of all letters, and of what is none, with whoever and whatever is asked for; the pool stays as it is.
func TestWhyEach(t *testing.T) {
	m := small()
	p := term.New()
	all := list(t, p, append(rising(m), none()...)...)
	all = append(all, strange(p.Len())...)
	long := p.Len()
	var met [6]int
	for _, u := range all {
		l, isLetter := m[speak.Print(p, u)]
		for _, who := range append([]int{0, 1}, noParties()...) {
			for _, c := range []uint64{0, 7, 8, 9, math.MaxUint64} {
				for _, s := range []string{"", "x", "y", "z"} {
					want := judgeWhy(l, isLetter, who, c, s)
					got, binds := evidence.Why(p, u, who, c, s), evidence.Binds(p, u, who, c, s)
					if got != want || binds != (want == 0) {
						t.Fatalf("%s, of %d, %d %q: %d, %t instead of %d", speak.Print(p, u), who, c, s, got, binds, want)
					}
					if w, b := evidence.Why(nil, u, who, c, s), evidence.Binds(nil, u, who, c, s); w != 1 || b {
						t.Fatalf("no pool: %d, %t", w, b)
					}
					met[want]++
				}
			}
		}
	}
	if slices.Min(met[:]) < 16 || p.Len() != long {
		t.Errorf("%v, %d terms were added", met, p.Len()-long)
	}
}

// P12.3: of facts as they may be handed in, those that bind a name, in their order, alike ones too.
func TestBonds(t *testing.T) {
	l := []api.Fact{{Kind: 2, Who: 1, C: 9, Text: "b"}, {Kind: 1, Who: 0, C: 7, Text: "x"}, {Kind: 2, Who: 0, C: 7, Text: "x"}, {Kind: 6, Who: 2, C: 7, Text: "x"}, {Kind: 2, Who: 1, C: 7, Text: "x"}, {Kind: 2, Who: 1, C: 9, Text: "b"}, {Kind: 2, Who: -1}, {Kind: 2, Who: math.MaxInt, C: 1}, {}, {Who: 1}, {Kind: 3, Who: 1}, {Kind: 258, Who: 1}, {Kind: 2, Who: 257}, {Kind: 2, Who: 2, C: 3}}
	was := slices.Clone(l)
	for _, x := range []struct {
		who  int
		want []api.Fact
	}{
		{0, []api.Fact{l[2]}}, {1, []api.Fact{l[0], l[4], l[5]}}, {2, []api.Fact{l[13]}}, {3, nil}, {-1, []api.Fact{l[6]}}, {math.MaxInt, []api.Fact{l[7]}}, {257, []api.Fact{l[12]}}, {math.MinInt, nil},
	} {
		facts(t, "Bonds", evidence.Bonds(l, x.who), x.want)
		facts(t, "Bonds of none", evidence.Bonds(nil, x.who), nil)
		facts(t, "Bonds of none", evidence.Bonds([]api.Fact{}, x.who), nil)
	}
	facts(t, "what was handed in", l, was)
	p := term.New()
	u := of(t, p, both(`s2(("instead" D))`))
	for who := range 2 {
		facts(t, "of a replacement", evidence.Bonds(evidence.Of(p, u), who), []api.Fact{{Kind: 2, Who: who, C: 7, Text: "x"}})
	}
}

// Rule 3: what is handed in stays as it is, its spare room too; what is answered is new each time, its spare room too.
func TestApart(t *testing.T) {
	p := term.New()
	l := list(t, p, both("s1(D)"), both(`s2(("instead" D))`), both("p0>1(D)"), both(`s0(("resolve" (p0>1(D) p1>0(D))))`), both(`s0(("abort" #7))`))
	was := slices.Clone(l)
	own := evidence.All(p, l)
	ownWas := tell(own)
	ask := []func() []api.Fact{
		func() []api.Fact { return evidence.All(p, l[:3]) },
		func() []api.Fact { return evidence.Bonds(own[:3], 0) },
		func() []api.Fact { return evidence.Bonds(own, 1) },
	}
	for _, u := range l {
		ask = append(ask, func() []api.Fact { return evidence.Of(p, u) })
	}
	for _, f := range ask {
		first, second := f(), f()
		want := tell(second)
		first = first[:cap(first)]
		for i := range first {
			first[i] = api.Fact{Kind: 99, Who: 99, C: 99, Text: "spoilt"}
		}
		facts(t, "the other answer", f(), second)
		if tell(second) != want || tell(own) != ownWas || !slices.Equal(l, was) {
			t.Fatalf("%s instead of %s, %s, %v", tell(second), want, tell(own), l)
		}
	}
}
