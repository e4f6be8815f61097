package arbiter_test

import (
	"math"
	"slices"
	"strconv"
	"strings"
	"testing"

	"escrow/api"
	"escrow/letter"
	"escrow/speak"
	"escrow/term"
)

// dice is a row of numbers that looks like chance, the same each time.
type dice uint64

func (d *dice) upTo(n int) int {
	*d = *d*6364136223846793005 + 1442695040888963407
	return int(uint64(*d) >> 33 % uint64(n))
}

// exhibit is a term that is shown, and what it says: a letter of Kind 0, if it is none.
type exhibit struct {
	line string
	u    api.Term
	says api.Letter
}

// bring makes exhibits of lines: of letters as chapter 11 writes them, of other terms as chapter 6 does.
func bring(t *testing.T, p *term.Pool, lines ...string) []exhibit {
	t.Helper()
	var l []exhibit
	for _, s := range lines {
		x := exhibit{line: s}
		var why api.Errno
		if x.says, why, _ = letter.Parse(s); why == api.OK {
			x.u, why = letter.Build(p, x.says)
		} else {
			x.u, why, _ = speak.Parse(p, s)
		}
		if why != api.OK || x.u == 0 {
			t.Fatalf("%s: error %d", s, why)
		}
		l = append(l, x)
	}
	return l
}

// strange are exhibits that are no terms of a pool.
func strange(p *term.Pool) []exhibit {
	var l []exhibit
	for _, u := range []api.Term{0, -1, -2, api.Term(p.Len()) + 1, api.Term(p.Len()) + 2, math.MinInt, math.MinInt + 1, math.MaxInt} {
		l = append(l, exhibit{line: "no term", u: u})
	}
	return l
}

// shown are the exhibits as they are handed in.
func shown(l []exhibit) []api.Term {
	var out []api.Term
	for _, x := range l {
		out = append(out, x.u)
	}
	return out
}

func lines(l []exhibit) string {
	var out []string
	for _, x := range l {
		out = append(out, x.line)
	}
	return strings.Join(out, ", ")
}

// letters are the lines of all letters of a contract with one of two texts.
func letters(c uint64) []string {
	n := " " + strconv.FormatUint(c, 10)
	l := []string{"abort" + n, "token" + n, "full" + n}
	for _, text := range []string{` "x"`, ` "y"`} {
		l = append(l, "instead"+n+text)
		for _, word := range []string{"promise", "promise!", "sign", "resolve", "resolve!"} {
			l = append(l, word+" 0"+n+text, word+" 1"+n+text)
		}
	}
	return l
}

// mute are terms that are no letters, nearly all of them of what binds or tells a fault.
func mute() []string {
	l := []string{
		"D", "h(s0(D))", "s2(D)", "s3(D)", "s15(D)", "(s0(D) n0)", "(n1 s1(D))", "(s0(D) s1(D))", "s3(s0(D))", "s0(s0(D))", "p0>1(s0(D))", "p0>2(D)", "f2>0(D)", "k0", "n0", "#7", `s0((#7 "x"))`, `s0(("deal" #7))`,
		`s0(("instead" D))`, `s1(("instead" D))`, `s3(("instead" D))`, `("instead" D)`, `h(s2(("instead" D)))`, `(s2(("instead" D)) n0)`, `s2(("instead" #7))`,
		`s0(("aborted" #7))`, `s3(("aborted" #7))`, `("aborted" #7)`, `s2(("aborted" D))`, `(s2(("aborted" #7)) n0)`,
		`s1(("abort" #7))`, `s2(("abort" #7))`, `("abort" #7)`, `s0(("abort" D))`, `(s0(("abort" #7)) n0)`,
	}
	for i, s := range l {
		l[i] = strings.ReplaceAll(s, "D", `("deal" (#7 "x"))`)
	}
	return l
}

// docketOf7 are the lines of all that binds or tells a fault in contract 7 with one of two texts, and few that does not.
func docketOf7() []string {
	return []string{`sign 0 7 "x"`, `sign 0 7 "y"`, `sign 1 7 "x"`, `sign 1 7 "y"`, "abort 7", "token 7", `instead 7 "x"`, `instead 7 "y"`, `promise 0 7 "x"`, `sign 0 8 "x"`, "token 8"}
}

// each goes over all lists of at most so many exhibits.
func each(all []exhibit, most int, do func(l []exhibit)) {
	var more func(l []exhibit)
	more = func(l []exhibit) {
		do(slices.Clone(l))
		if len(l) == most {
			return
		}
		for _, x := range all {
			more(append(slices.Clone(l), x))
		}
	}
	more(nil)
}

// some are exhibits by chance, fewer than so many, in contracts 7 and 8 mostly letters.
func some(t *testing.T, d *dice, p *term.Pool, most int) []exhibit {
	t.Helper()
	all := bring(t, p, slices.Concat(letters(7), letters(8), docketOf7(), docketOf7(), docketOf7(), mute())...)
	all = append(all, strange(p)...)
	var l []exhibit
	for range d.upTo(most) {
		l = append(l, all[d.upTo(len(all))])
	}
	return l
}

// claims are what may be claimed of those exhibits, and some that nobody can bear out.
func claims() []api.Claim {
	var l []api.Claim
	for _, who := range []int{0, 1, 2, 3, -1, 256, 1 << 32, math.MinInt, math.MaxInt} {
		for _, c := range []uint64{7, 8, 0, 7 + 1<<32} {
			for _, text := range []string{"x", "y", "", "xx"} {
				l = append(l, api.Claim{Who: who, C: c, Text: text})
			}
		}
	}
	return l
}

// judgeBonds are the bonds as one reads them off the letters, one by one.
func judgeBonds(l []exhibit) []api.Bond {
	var out []api.Bond
	for i, x := range l {
		for who := range 2 {
			b := api.Bond{Who: who, C: x.says.C, Text: x.says.Text, By: i}
			switch {
			case x.says.Kind == 2 && x.says.From == who:
				b.Why = 1
			case x.says.Kind == 6:
				b.Why = 2
			}
			ahead := slices.ContainsFunc(out, func(a api.Bond) bool {
				return a.Who == b.Who && a.C == b.C && a.Text == b.Text
			})
			if b.Why != 0 && !ahead {
				out = append(out, b)
			}
		}
	}
	return out
}

// judgeFaults are the faults as one reads them off each two letters, one pair behind the other.
func judgeFaults(l []exhibit) []api.Fault {
	var out []api.Fault
	for i, a := range l {
		for j, b := range l[i+1:] {
			x, y := a.says, b.says
			if x.Kind > y.Kind {
				x, y = y, x
			}
			f := api.Fault{C: x.C, A: i, B: i + 1 + j}
			switch {
			case x.C != y.C:
			case x.Kind == 2 && y.Kind == 2 && x.From == y.From && x.Text != y.Text:
				f.Kind, f.Who = 1, x.From
			case x.Kind >= 5 && y.Kind == 6 && x != y:
				f.Kind, f.Who = 2, 2
			case x.Kind == 2 && x.From == 0 && y.Kind == 3:
				f.Kind = 3
			}
			if f.Kind != 0 && !slices.ContainsFunc(out, func(g api.Fault) bool { return charge(g) == charge(f) }) {
				out = append(out, f)
			}
		}
	}
	return out
}

// charge is a fault without its places, claim a bond without its reason.
func charge(f api.Fault) api.Fault {
	f.A, f.B = 0, 0
	return f
}

func claim(b api.Bond) api.Claim {
	return api.Claim{Who: b.Who, C: b.C, Text: b.Text}
}

// same fails if two lists are not the same.
func same[T comparable](t *testing.T, what string, got, want []T) {
	t.Helper()
	if !slices.Equal(got, want) {
		t.Fatalf("%s: %v instead of %v", what, got, want)
	}
}
