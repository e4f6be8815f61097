package arbiter_test

import (
	"math"
	"slices"
	"strconv"
	"strings"
	"testing"

	"escrow/api"
	"escrow/arbiter"
	"escrow/term"
)

// P13.1: by hand: the first term that binds to just this, why, and where it stands.
func TestJudge(t *testing.T) {
	full := strings.Repeat("z", api.MaxData)
	for _, x := range []struct {
		lines []string
		claim api.Claim
		want  api.Ruling
	}{
		{[]string{`sign 1 7 "t"`}, api.Claim{Who: 1, C: 7, Text: "t"}, api.Ruling{Bound: true, Why: 1}},
		{[]string{`sign 1 7 "t"`}, api.Claim{Who: 0, C: 7, Text: "t"}, api.Ruling{By: -1}},
		{[]string{`instead 7 "t"`}, api.Claim{Who: 0, C: 7, Text: "t"}, api.Ruling{Bound: true, Why: 2}},
		{[]string{`instead 7 "t"`}, api.Claim{Who: 1, C: 7, Text: "t"}, api.Ruling{Bound: true, Why: 2}},
		{[]string{`sign 0 7 "t"`}, api.Claim{Who: 0, C: 7, Text: "t"}, api.Ruling{Bound: true, Why: 1}},
		{[]string{"token 7", `sign 0 7 "t"`, `instead 7 "t"`, `sign 0 7 "t"`}, api.Claim{Who: 0, C: 7, Text: "t"}, api.Ruling{Bound: true, Why: 1, By: 1}},
		{[]string{"token 7", `sign 0 7 "t"`, `instead 7 "t"`, `sign 1 7 "t"`}, api.Claim{Who: 1, C: 7, Text: "t"}, api.Ruling{Bound: true, Why: 2, By: 2}},
		{[]string{`instead 7 "u"`, `instead 8 "t"`, `sign 0 7 "u"`, `sign 1 7 "t"`, `sign 0 7 "t"`}, api.Claim{Who: 0, C: 7, Text: "t"}, api.Ruling{Bound: true, Why: 1, By: 4}},
		{[]string{`promise 0 7 "t"`, `promise! 0 7 "t"`, `(s0(("deal" (#7 "t"))) n0)`}, api.Claim{Who: 0, C: 7, Text: "t"}, api.Ruling{By: -1}},
		{[]string{`resolve 0 7 "t"`, `resolve! 0 7 "t"`, "abort 7", "token 7", "full 7"}, api.Claim{Who: 0, C: 7, Text: "t"}, api.Ruling{By: -1}},
		{[]string{"abort 7", "token 7", "full 7"}, api.Claim{Who: 0, C: 7}, api.Ruling{By: -1}},
		{[]string{`sign 1 0 ""`}, api.Claim{Who: 1}, api.Ruling{Bound: true, Why: 1}},
		{[]string{`instead 0 ""`}, api.Claim{}, api.Ruling{Bound: true, Why: 2}},
		{[]string{"n0"}, api.Claim{}, api.Ruling{By: -1}},
		{nil, api.Claim{}, api.Ruling{By: -1}},
		{[]string{`instead 7 "t"`}, api.Claim{Who: 2, C: 7, Text: "t"}, api.Ruling{By: -1}},
		{[]string{`instead 7 "t"`}, api.Claim{Who: -1, C: 7, Text: "t"}, api.Ruling{By: -1}},
		{[]string{`instead 7 "t"`}, api.Claim{Who: 256, C: 7, Text: "t"}, api.Ruling{By: -1}},
		{[]string{`sign 1 7 "t"`}, api.Claim{Who: 1 + 1<<32, C: 7, Text: "t"}, api.Ruling{By: -1}},
		{[]string{`sign 1 7 "t"`}, api.Claim{Who: 1, C: 7 + 1<<32, Text: "t"}, api.Ruling{By: -1}},
		{[]string{`sign 1 18446744073709551615 "` + full + `"`}, api.Claim{Who: 1, C: math.MaxUint64, Text: full}, api.Ruling{Bound: true, Why: 1}},
		{[]string{`sign 1 7 "` + full + `"`}, api.Claim{Who: 1, C: 7, Text: full + "z"}, api.Ruling{By: -1}},
		{[]string{`sign 1 7 "t"`}, api.Claim{Who: 1, C: 7, Text: "t\x00"}, api.Ruling{By: -1}},
		{[]string{`sign 1 7 "t"`}, api.Claim{Who: 1, C: 7, Text: "T"}, api.Ruling{By: -1}},
		{[]string{`sign 1 7 "t"`}, api.Claim{Who: 1, C: 7, Text: strings.Repeat("t", 5000)}, api.Ruling{By: -1}},
	} {
		p := term.New()
		l := bring(t, p, x.lines...)
		if got := arbiter.Judge(p, shown(l), x.claim); got != x.want {
			t.Errorf("%s, of %v: %v instead of %v", lines(l), x.claim, got, x.want)
		}
	}
}

// P13.2: by hand: a bond of a signature, two of a replacement, each Who, C and Text once, by whatever stands first.
func TestBonds(t *testing.T) {
	for _, x := range []struct {
		lines []string
		want  []api.Bond
	}{
		{nil, nil},
		{[]string{`promise 0 7 "t"`, `promise! 1 7 "t"`, `resolve 0 7 "t"`, "abort 7", "token 7", "full 7", "n0"}, nil},
		{[]string{`sign 1 7 "t"`}, []api.Bond{{Who: 1, C: 7, Text: "t", Why: 1}}},
		{[]string{"n0", `instead 7 "t"`}, []api.Bond{{Who: 0, C: 7, Text: "t", Why: 2, By: 1}, {Who: 1, C: 7, Text: "t", Why: 2, By: 1}}},
		{[]string{`sign 1 7 "t"`, `instead 7 "t"`}, []api.Bond{{Who: 1, C: 7, Text: "t", Why: 1}, {Who: 0, C: 7, Text: "t", Why: 2, By: 1}}},
		{[]string{`sign 0 7 "t"`, `instead 7 "t"`}, []api.Bond{{Who: 0, C: 7, Text: "t", Why: 1}, {Who: 1, C: 7, Text: "t", Why: 2, By: 1}}},
		{[]string{`instead 7 "t"`, `sign 1 7 "t"`, `sign 0 7 "t"`, `instead 7 "t"`}, []api.Bond{{Who: 0, C: 7, Text: "t", Why: 2}, {Who: 1, C: 7, Text: "t", Why: 2}}},
		{[]string{`sign 0 9 "b"`, `sign 0 7 "b"`, `sign 0 9 "a"`, `sign 0 9 "b"`, `sign 1 9 "b"`}, []api.Bond{{Who: 0, C: 9, Text: "b", Why: 1}, {Who: 0, C: 7, Text: "b", Why: 1, By: 1}, {Who: 0, C: 9, Text: "a", Why: 1, By: 2}, {Who: 1, C: 9, Text: "b", Why: 1, By: 4}}},
		{[]string{`sign 0 0 ""`, `instead 0 ""`}, []api.Bond{{Why: 1}, {Who: 1, Why: 2, By: 1}}},
	} {
		p := term.New()
		l := bring(t, p, x.lines...)
		same(t, lines(l), arbiter.Bonds(p, shown(l)), x.want)
	}
}

// P13.4: by hand: a token of just this contract, and no replacement of it, to whatever text and wherever it stands.
func TestVoid(t *testing.T) {
	for _, x := range []struct {
		lines []string
		c     uint64
		want  bool
	}{
		{nil, 0, false}, {[]string{"n0"}, 0, false}, {[]string{"token 7"}, 7, true}, {[]string{"token 7"}, 8, false}, {[]string{"token 7"}, 7 + 1<<32, false}, {[]string{"token 0"}, 0, true},
		{[]string{"token 18446744073709551615"}, math.MaxUint64, true}, {[]string{"abort 7", "full 7", `sign 0 7 "x"`}, 7, false}, {[]string{"n0", "abort 7", "token 7", "token 7"}, 7, true},
		{[]string{"token 7", `instead 7 "x"`}, 7, false}, {[]string{`instead 7 "y"`, "token 7"}, 7, false}, {[]string{"token 7", "n0", `instead 7 "x"`, "token 7"}, 7, false},
		{[]string{`instead 7 "x"`}, 7, false}, {[]string{"token 7", `instead 8 "x"`}, 7, true}, {[]string{"token 7", `sign 0 7 "x"`, `sign 1 7 "x"`, `resolve 0 7 "x"`}, 7, true},
		{[]string{`(s2(("aborted" #7)) n0)`, `s0(("aborted" #7))`}, 7, false}, {[]string{"token 7", `(s2(("instead" ("deal" (#7 "x")))) n0)`}, 7, true},
	} {
		p := term.New()
		l := bring(t, p, x.lines...)
		if got := arbiter.Void(p, shown(l), x.c); got != x.want {
			t.Errorf("%s, of %d: %t", lines(l), x.c, got)
		}
	}
}

// P13.5, P13.6: by hand.
func TestTextsAndEven(t *testing.T) {
	p := term.New()
	l := shown(bring(t, p, `sign 0 7 "b"`, `instead 7 "c"`, `sign 1 7 "b"`, `sign 0 7 "a"`, `sign 1 8 "d"`, `sign 0 7 "b"`, "token 7", `promise 1 7 "a"`))
	for _, x := range []struct {
		who  int
		c    uint64
		want []string
	}{
		{0, 7, []string{"b", "c", "a"}}, {1, 7, []string{"c", "b"}}, {1, 8, []string{"d"}}, {0, 8, nil}, {2, 7, nil}, {-1, 7, nil}, {256, 7, nil}, {0, 0, nil}, {0, 7 + 1<<32, nil},
	} {
		same(t, strconv.Itoa(x.who), arbiter.Texts(p, l, x.who, x.c), x.want)
	}
	for _, x := range []struct {
		c    uint64
		text string
		want bool
	}{
		{7, "a", false}, {7, "b", true}, {7, "c", true}, {7, "d", true}, {8, "d", false}, {8, "b", true}, {7, "", true}, {0, "", true}, {7 + 1<<32, "a", true}, {7, strings.Repeat("a", 5000), true},
	} {
		if got := arbiter.Even(p, l, x.c, x.text); got != x.want {
			t.Errorf("%d %q: %t", x.c, x.text, got)
		}
	}
	if !arbiter.Even(p, nil, 7, "a") || len(arbiter.Texts(p, nil, 0, 7)) != 0 {
		t.Error("nothing shown, and somebody bound")
	}
}

// asJudged fails if of some exhibits the arbiter tells anything but what the tests' own judge reads off them.
func asJudged(t *testing.T, p *term.Pool, l []exhibit) {
	t.Helper()
	u := shown(l)
	bonds := judgeBonds(l)
	same(t, lines(l), arbiter.Bonds(p, u), bonds)
	same(t, lines(l), arbiter.Faults(p, u), judgeFaults(l))
	for _, c := range claims() {
		want := api.Ruling{By: -1}
		var texts []string
		even := 0
		for _, b := range bonds {
			if claim(b) == c {
				want = api.Ruling{Bound: true, Why: b.Why, By: b.By}
			}
			if b.Who == c.Who && b.C == c.C {
				texts = append(texts, b.Text)
			}
			if b.C == c.C && b.Text == c.Text {
				even++
			}
		}
		if got := arbiter.Judge(p, u, c); got != want {
			t.Fatalf("%s, of %v: %v instead of %v", lines(l), c, got, want)
		}
		if c.Text == "x" {
			same(t, lines(l), arbiter.Texts(p, u, c.Who, c.C), texts)
		}
		if got := arbiter.Even(p, u, c.C, c.Text); c.Who == 0 && got != (even != 1) {
			t.Fatalf("%s, of %v: Even %t", lines(l), c, got)
		}
	}
	for _, c := range []uint64{0, 7, 8, 9} {
		has := func(kind int) bool {
			return slices.ContainsFunc(l, func(x exhibit) bool { return x.says.Kind == kind && x.says.C == c })
		}
		if got := arbiter.Void(p, u, c); got != (has(5) && !has(6)) {
			t.Fatalf("%s, of %d: Void %t", lines(l), c, got)
		}
	}
}

// P13.1 to P13.6: each letter of two contracts, and what is none, alone and behind each other.
func TestEachTwo(t *testing.T) {
	p := term.New()
	all := append(bring(t, p, slices.Concat(letters(7), letters(8), mute())...), strange(p)...)
	each(all, 2, func(l []exhibit) { asJudged(t, p, l) })
}

// P13.1 to P13.6: all lists of at most three that bind or tell a fault; lists by chance, longer ones.
func TestMany(t *testing.T) {
	p := term.New()
	each(bring(t, p, docketOf7()...), 3, func(l []exhibit) { asJudged(t, p, l) })
	d := dice(1)
	for range 1500 {
		asJudged(t, p, some(t, &d, p, 30))
	}
}

// P13.1 to P13.6: every term of a pool, letters or not, each shown twice; nothing is made in the pool.
func TestWholePool(t *testing.T) {
	p := term.New()
	all := bring(t, p, slices.Concat(letters(7), mute())...)
	says := map[api.Term]exhibit{}
	for _, x := range all {
		says[x.u] = x
	}
	long := p.Len()
	var l []exhibit
	for u := api.Term(-1); int(u) <= long+1; u++ {
		x := exhibit{line: strconv.Itoa(int(u)), u: u, says: says[u].says}
		l = append(l, x, x)
	}
	asJudged(t, p, l)
	slices.Reverse(l)
	asJudged(t, p, l)
	if p.Len() != long {
		t.Errorf("%d terms were added", p.Len()-long)
	}
}

// Rule 3: what is handed in stays as it is, its spare room too; what is answered is new each time, its spare room too.
func TestApart(t *testing.T) {
	p := term.New()
	l := shown(bring(t, p, `sign 0 7 "b"`, `instead 7 "c"`, `sign 0 7 "a"`, "abort 7", "token 7", `sign 0 8 "a"`, `sign 0 8 "b"`))
	was := slices.Clone(l)
	spoils(t, func() []api.Bond { return arbiter.Bonds(p, l[:3]) })
	spoils(t, func() []api.Fault { return arbiter.Faults(p, l[:5]) })
	spoils(t, func() []string { return arbiter.Texts(p, l[:3], 0, 7) })
	arbiter.Judge(p, l[:3], api.Claim{})
	arbiter.Void(p, l[:3], 7)
	arbiter.Even(p, l[:3], 7, "a")
	same(t, "what was handed in", l, was)
}

// spoils writes over an answer, and fails if another answer is changed by that.
func spoils[T comparable](t *testing.T, ask func() []T) {
	t.Helper()
	first, second := ask(), ask()
	want := slices.Clone(second)
	clear(first[:cap(first)])
	same(t, "the other answer", second, want)
	same(t, "the next answer", ask(), want)
	if len(want) < 2 {
		t.Errorf("only %v", want)
	}
}
