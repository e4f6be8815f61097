package arbiter_test

import (
	"math"
	"strconv"
	"testing"

	"escrow/api"
	"escrow/arbiter"
	"escrow/term"
)

// P13.3: by hand: each two letters that tell a fault, either way round, and those that nearly do.
func TestFaultsOfTwo(t *testing.T) {
	for _, x := range []struct {
		a, b string
		want api.Fault
	}{
		{`sign 0 7 "x"`, `sign 0 7 "y"`, api.Fault{Who: 0, C: 7, Kind: 1}},
		{`sign 1 7 "x"`, `sign 1 7 ""`, api.Fault{Who: 1, C: 7, Kind: 1}},
		{`sign 1 18446744073709551615 "x"`, `sign 1 18446744073709551615 "X"`, api.Fault{Who: 1, C: math.MaxUint64, Kind: 1}},
		{`sign 0 7 "x"`, `sign 1 7 "y"`, api.Fault{}},
		{`sign 0 7 "x"`, `sign 0 8 "y"`, api.Fault{}},
		{`sign 0 7 "x"`, `sign 0 4294967303 "y"`, api.Fault{}},
		{`sign 0 7 "x"`, `sign 0 7 "x"`, api.Fault{}},
		{`sign 0 7 "x"`, `instead 7 "y"`, api.Fault{}},
		{`sign 0 7 "x"`, `promise 0 7 "y"`, api.Fault{}},
		{`sign 0 7 "x"`, `resolve 0 7 "y"`, api.Fault{}},
		{`sign 0 7 "x"`, `(s0(("deal" (#7 "y"))) n0)`, api.Fault{}},
		{`promise 0 7 "x"`, `promise 0 7 "y"`, api.Fault{}},
		{`promise 0 7 "x"`, `promise! 0 7 "x"`, api.Fault{}},
		{`resolve 0 7 "x"`, `resolve 0 7 "y"`, api.Fault{}},
		{"token 7", `instead 7 "x"`, api.Fault{Who: 2, C: 7, Kind: 2}},
		{"token 7", `instead 7 ""`, api.Fault{Who: 2, C: 7, Kind: 2}},
		{"token 0", `instead 0 ""`, api.Fault{Who: 2, Kind: 2}},
		{`instead 7 "x"`, `instead 7 "y"`, api.Fault{Who: 2, C: 7, Kind: 2}},
		{`instead 7 "x"`, `instead 7 "x"`, api.Fault{}},
		{`instead 7 "x"`, `instead 8 "y"`, api.Fault{}},
		{"token 7", "token 7", api.Fault{}},
		{"token 7", `instead 8 "x"`, api.Fault{}},
		{"token 7", "full 7", api.Fault{}},
		{"full 7", `instead 7 "x"`, api.Fault{}},
		{"token 7", `sign 0 7 "x"`, api.Fault{}},
		{"token 7", "abort 7", api.Fault{}},
		{"token 7", `s0(("instead" ("deal" (#7 "x"))))`, api.Fault{}},
		{`sign 0 7 "x"`, "abort 7", api.Fault{Who: 0, C: 7, Kind: 3}},
		{`sign 0 0 ""`, "abort 0", api.Fault{Kind: 3}},
		{`sign 1 7 "x"`, "abort 7", api.Fault{}},
		{`sign 0 7 "x"`, "abort 8", api.Fault{}},
		{`sign 0 7 "x"`, `s1(("abort" #7))`, api.Fault{}},
		{`promise 0 7 "x"`, "abort 7", api.Fault{}},
		{`resolve 0 7 "x"`, "abort 7", api.Fault{}},
		{`instead 7 "x"`, "abort 7", api.Fault{}},
		{"abort 7", "abort 7", api.Fault{}},
		{"n0", "#7", api.Fault{}},
	} {
		var want []api.Fault
		if x.want.Kind != 0 {
			x.want.A, x.want.B = 1, 3
			want = []api.Fault{x.want}
		}
		for _, pair := range [][2]string{{x.a, x.b}, {x.b, x.a}} {
			p := term.New()
			l := bring(t, p, "n0", pair[0], "n0", pair[1])
			same(t, lines(l), arbiter.Faults(p, shown(l)), want)
		}
	}
}

// P13.3: by hand: by A, then by B, and of each Who, C and Kind the first alone.
func TestFaultsInOrder(t *testing.T) {
	for _, x := range []struct {
		lines []string
		want  []api.Fault
	}{
		{nil, nil},
		{[]string{`sign 0 7 "x"`}, nil},
		{[]string{`sign 0 7 "x"`, `sign 0 7 "x"`, `sign 0 7 "y"`, `sign 0 7 "z"`}, []api.Fault{{Who: 0, C: 7, Kind: 1, A: 0, B: 2}}},
		{[]string{`instead 7 "x"`, `instead 7 "x"`, "token 7", `instead 7 "y"`}, []api.Fault{{Who: 2, C: 7, Kind: 2, A: 0, B: 2}}},
		{[]string{"token 7", "token 7", `instead 7 "y"`, `instead 7 "x"`}, []api.Fault{{Who: 2, C: 7, Kind: 2, A: 0, B: 2}}},
		{[]string{"abort 7", "abort 7", `sign 0 7 "x"`, `sign 0 7 "x"`, "abort 7"}, []api.Fault{{Who: 0, C: 7, Kind: 3, A: 0, B: 2}}},
		{[]string{`sign 0 7 "x"`, "abort 7", `sign 0 7 "y"`}, []api.Fault{{Who: 0, C: 7, Kind: 3, A: 0, B: 1}, {Who: 0, C: 7, Kind: 1, A: 0, B: 2}}},
		{[]string{`sign 0 7 "x"`, `sign 0 7 "y"`, "abort 7"}, []api.Fault{{Who: 0, C: 7, Kind: 1, A: 0, B: 1}, {Who: 0, C: 7, Kind: 3, A: 0, B: 2}}},
		{[]string{"abort 7", `sign 0 7 "x"`, `sign 0 7 "y"`}, []api.Fault{{Who: 0, C: 7, Kind: 3, A: 0, B: 1}, {Who: 0, C: 7, Kind: 1, A: 1, B: 2}}},
		{[]string{"token 7", `sign 1 7 "x"`, `sign 1 7 "y"`, `instead 7 "x"`}, []api.Fault{{Who: 2, C: 7, Kind: 2, A: 0, B: 3}, {Who: 1, C: 7, Kind: 1, A: 1, B: 2}}},
		{[]string{`sign 0 9 "x"`, `sign 0 7 "x"`, `sign 1 7 "x"`, `sign 1 7 "y"`, `sign 0 7 "y"`, `sign 0 9 "y"`}, []api.Fault{{Who: 0, C: 9, Kind: 1, A: 0, B: 5}, {Who: 0, C: 7, Kind: 1, A: 1, B: 4}, {Who: 1, C: 7, Kind: 1, A: 2, B: 3}}},
		{[]string{`sign 0 7 "t"`, `sign 0 7 "u"`, "token 7", `instead 7 "t"`, "abort 7"}, []api.Fault{{Who: 0, C: 7, Kind: 1, A: 0, B: 1}, {Who: 0, C: 7, Kind: 3, A: 0, B: 4}, {Who: 2, C: 7, Kind: 2, A: 2, B: 3}}},
	} {
		p := term.New()
		l := bring(t, p, x.lines...)
		same(t, lines(l), arbiter.Faults(p, shown(l)), x.want)
	}
}

// P13.3: all lists of at most five in one contract, held against each two of them.
func TestFaultsOfEachFive(t *testing.T) {
	p := term.New()
	each(bring(t, p, docketOf7()[:8]...), 5, func(l []exhibit) {
		same(t, lines(l), arbiter.Faults(p, shown(l)), judgeFaults(l))
	})
}

// P13.3: lists by chance of what tells faults in many contracts at once, held against each two of them.
func TestFaultsOfManyContracts(t *testing.T) {
	p := term.New()
	var all []exhibit
	for c := range 40 {
		n := " " + strconv.Itoa(c)
		all = append(all, bring(t, p, "sign 0"+n+` "x"`, "sign 0"+n+` "y"`, "sign 1"+n+` "x"`, "sign 1"+n+` "y"`, "abort"+n, "token"+n, "instead"+n+` "x"`)...)
	}
	d := dice(4)
	longest := 0
	for range 60 {
		var l []exhibit
		for range d.upTo(600) {
			l = append(l, all[d.upTo(len(all))])
		}
		want := judgeFaults(l)
		same(t, lines(l), arbiter.Faults(p, shown(l)), want)
		longest = max(longest, len(want))
	}
	if longest < 100 {
		t.Errorf("at most %d faults", longest)
	}
}

// P13.2, P13.3: of a full pool, with thousands of texts of one contract signed and thousands of contracts aborted and replaced, each shown twice.
func TestFullPool(t *testing.T) {
	p := term.New()
	var l []api.Term
	add := func(line string) {
		l = append(l, bring(t, p, line)[0].u)
	}
	const signed, aborted = 9000, 4000
	for i := range signed {
		add(`sign 0 7 "t` + strconv.Itoa(i) + `"`)
	}
	for i := range aborted {
		c := strconv.Itoa(100 + i)
		add("token " + c)
		add("instead " + c + ` "t0"`)
	}
	add("abort 7")
	l = append(l, l...)
	want := []api.Fault{{Who: 0, C: 7, Kind: 1, A: 0, B: 1}, {Who: 0, C: 7, Kind: 3, A: 0, B: signed + 2*aborted}}
	for i := range aborted {
		at := signed + 2*i
		want = append(want, api.Fault{Who: 2, C: uint64(100 + i), Kind: 2, A: at, B: at + 1})
	}
	same(t, "all", arbiter.Faults(p, l), want)
	bonds := arbiter.Bonds(p, l)
	if len(bonds) != signed+2*aborted || len(arbiter.Texts(p, l, 0, 7)) != signed {
		t.Errorf("%d bonds, %d terms", len(bonds), p.Len())
	}
}

// P13.7: by Kind alone, whoever is named.
func TestExplain(t *testing.T) {
	top := uint64(math.MaxUint64)
	for _, x := range []struct {
		f    api.Fault
		want string
	}{
		{api.Fault{Who: 0, C: 7, Kind: 1, A: 3, B: 4}, "party 0 signed two texts of 7"},
		{api.Fault{Who: 1, C: top, Kind: 1}, "party 1 signed two texts of 18446744073709551615"},
		{api.Fault{Who: -1, Kind: 1}, "party -1 signed two texts of 0"},
		{api.Fault{Who: math.MinInt, C: 10, Kind: 1}, "party -9223372036854775808 signed two texts of 10"},
		{api.Fault{Who: 2, C: 7, Kind: 2}, "the notary gave two verdicts on 7"},
		{api.Fault{Who: 0, C: top, Kind: 2}, "the notary gave two verdicts on 18446744073709551615"},
		{api.Fault{Who: 0, C: 7, Kind: 3}, "the originator signed 7 and asked to abort it"},
		{api.Fault{Who: 1, C: 0, Kind: 3}, "the originator signed 0 and asked to abort it"},
		{api.Fault{}, ""}, {api.Fault{C: 7, Kind: 4}, ""}, {api.Fault{C: 7, Kind: -1}, ""}, {api.Fault{C: 7, Kind: 257}, ""}, {api.Fault{C: 7, Kind: 1 + 1<<32}, ""}, {api.Fault{Kind: math.MinInt}, ""}, {api.Fault{Kind: math.MaxInt}, ""},
	} {
		if got := arbiter.Explain(x.f); got != x.want {
			t.Errorf("%v: %q instead of %q", x.f, got, x.want)
		}
	}
}
