package letter_test

import (
	"math"
	"slices"
	"strconv"
	"strings"
	"testing"

	"escrow/api"
	"escrow/letter"
	"escrow/speak"
	"escrow/term"
)

// dice is a row of numbers that looks like chance, the same each time.
type dice uint64

func (d *dice) upTo(n int) int {
	*d = *d*6364136223846793005 + 1442695040888963407
	return int(uint64(*d) >> 33 % uint64(n))
}

// strange are numbers that are no term of a pool of so many.
func strange(long int) []api.Term {
	return []api.Term{0, -1, -2, api.Term(long) + 1, api.Term(long) + 2, math.MinInt, math.MinInt + 1, math.MaxInt - 1, math.MaxInt}
}

// odd are numbers that are neither a kind nor a party, though many a shorter int of them would be.
func odd() []int {
	return []int{-1, -2, -3, -4, -7, 8, 9, 15, 16, 255, 256, 257, 1<<16 + 1, 1 << 32, 1<<32 + 1, 1<<32 + 2, math.MinInt, math.MinInt + 1, math.MinInt32 + 1, math.MaxInt - 1, math.MaxInt}
}

// of is the term of a text.
func of(t *testing.T, p *term.Pool, text string) api.Term {
	t.Helper()
	u, why, at := speak.Parse(p, text)
	if u == 0 || why != api.OK {
		t.Fatalf("%s: error %d at %d", text, why, at)
	}
	return u
}

// treeOf is the tree of a text.
func treeOf(t *testing.T, text string) api.Tree {
	t.Helper()
	x, why, at := speak.Read(text)
	if why != api.OK {
		t.Fatalf("%s: error %d at %d", text, why, at)
	}
	return x
}

// spell writes a tree: two are the same just if their texts are.
func spell(x api.Tree) string {
	s, _ := speak.Show(x)
	return s
}

// tell writes a letter for whoever reads a failed test; not as Print does, so that one may be wrong without the other.
func tell(l api.Letter) string {
	return "{" + strconv.Itoa(l.Kind) + " from " + strconv.Itoa(l.From) + " of " + strconv.FormatUint(l.C, 10) + " " + strconv.Quote(l.Text) + " " + strconv.FormatBool(l.Fake) + "}"
}

// sample is a letter with the text of its term and its line, put down by hand.
type sample struct {
	l    api.Letter
	term string
	line string
	to   int
}

const (
	deal7 = `("deal" (#7 "x"))`
	deal0 = `("deal" (#0 ""))`
	most  = `18446744073709551615`
)

func samples() []sample {
	top := uint64(math.MaxUint64)
	return []sample{
		{api.Letter{Kind: 1, C: 7, Text: "x"}, `p0>1(` + deal7 + `)`, `promise 0 7 "x"`, 1},
		{api.Letter{Kind: 1, From: 1, C: 7, Text: "x"}, `p1>0(` + deal7 + `)`, `promise 1 7 "x"`, 0},
		{api.Letter{Kind: 1, C: 7, Text: "x", Fake: true}, `f0>1(` + deal7 + `)`, `promise! 0 7 "x"`, 1},
		{api.Letter{Kind: 1, From: 1, C: 7, Text: "x", Fake: true}, `f1>0(` + deal7 + `)`, `promise! 1 7 "x"`, 0},
		{api.Letter{Kind: 1}, `p0>1(` + deal0 + `)`, `promise 0 0 ""`, 1},
		{api.Letter{Kind: 2, C: 7, Text: "x"}, `s0(` + deal7 + `)`, `sign 0 7 "x"`, 1},
		{api.Letter{Kind: 2, From: 1, C: 7, Text: "x"}, `s1(` + deal7 + `)`, `sign 1 7 "x"`, 0},
		{api.Letter{Kind: 2, From: 1}, `s1(` + deal0 + `)`, `sign 1 0 ""`, 0},
		{api.Letter{Kind: 2, C: top, Text: "deal"}, `s0(("deal" (#` + most + ` "deal")))`, `sign 0 ` + most + ` "deal"`, 1},
		{api.Letter{Kind: 3, C: 7}, `s0(("abort" #7))`, `abort 7`, 2},
		{api.Letter{Kind: 3}, `s0(("abort" #0))`, `abort 0`, 2},
		{api.Letter{Kind: 3, C: top}, `s0(("abort" #` + most + `))`, `abort ` + most, 2},
		{api.Letter{Kind: 4, C: 7, Text: "x"}, `s0(("resolve" (p0>1(` + deal7 + `) p1>0(` + deal7 + `))))`, `resolve 0 7 "x"`, 2},
		{api.Letter{Kind: 4, From: 1, C: 7, Text: "x"}, `s1(("resolve" (p0>1(` + deal7 + `) p1>0(` + deal7 + `))))`, `resolve 1 7 "x"`, 2},
		{api.Letter{Kind: 4, C: 7, Text: "x", Fake: true}, `s0(("resolve" (f0>1(` + deal7 + `) f1>0(` + deal7 + `))))`, `resolve! 0 7 "x"`, 2},
		{api.Letter{Kind: 4, From: 1, C: 7, Text: "x", Fake: true}, `s1(("resolve" (f0>1(` + deal7 + `) f1>0(` + deal7 + `))))`, `resolve! 1 7 "x"`, 2},
		{api.Letter{Kind: 4}, `s0(("resolve" (p0>1(` + deal0 + `) p1>0(` + deal0 + `))))`, `resolve 0 0 ""`, 2},
		{api.Letter{Kind: 5, C: 7}, `s2(("aborted" #7))`, `token 7`, -1},
		{api.Letter{Kind: 5, C: top}, `s2(("aborted" #` + most + `))`, `token ` + most, -1},
		{api.Letter{Kind: 6, C: 7, Text: "x"}, `s2(("instead" ` + deal7 + `))`, `instead 7 "x"`, -1},
		{api.Letter{Kind: 6}, `s2(("instead" ` + deal0 + `))`, `instead 0 ""`, -1},
		{api.Letter{Kind: 7, C: 7}, `("full" #7)`, `full 7`, -1},
		{api.Letter{Kind: 7}, `("full" #0)`, `full 0`, -1},
	}
}

// oneEach are samples of all kinds, with fakes and without.
func oneEach() []sample {
	var l []sample
	for _, x := range samples() {
		last := len(l) - 1
		if last < 0 || l[last].l.Kind != x.l.Kind || l[last].l.Fake != x.l.Fake {
			l = append(l, x)
		}
	}
	return l
}

// texts are a few contract's texts, the longest and words of the protocol among them.
func texts() []string {
	return []string{"", "x", "a\"b", `\`, "\n", "\x00\x1f\x7f\x80\xff", "é", "deal", "abort", "aborted", "instead", "resolve", "full", `" `, "promise 0 7", `\n`, `\x00`, strings.Repeat("a", api.MaxData), strings.Repeat("\x00", api.MaxData)}
}

func numbers() []uint64 {
	return []uint64{0, 1, 2, 7, 9, 10, 99, 1 << 32, 1 << 63, math.MaxUint64 - 1, math.MaxUint64}
}

// letters are all that Check takes, of these numbers and texts.
func letters(numbers []uint64, texts []string) []api.Letter {
	var l []api.Letter
	for _, c := range numbers {
		l = append(l, api.Letter{Kind: 3, C: c}, api.Letter{Kind: 5, C: c}, api.Letter{Kind: 7, C: c})
		for _, s := range texts {
			l = append(l, api.Letter{Kind: 6, C: c, Text: s})
			for from := range 2 {
				m := api.Letter{Kind: 1, From: from, C: c, Text: s}
				for _, kind := range []int{1, 2, 4} {
					m.Kind = kind
					l = append(l, m)
				}
				m.Fake = true
				l = append(l, m)
				m.Kind = 1
				l = append(l, m)
			}
		}
	}
	return l
}

// wrong is a letter that Check refuses.
type wrong struct {
	l   api.Letter
	why api.Errno
}

// wrongs are letters with one fault each, and with two: then the first one is told.
func wrongs() []wrong {
	long := strings.Repeat("x", api.MaxData+1)
	l := []wrong{
		{api.Letter{}, api.ErrLetter},
		{api.Letter{C: 7, Text: "x"}, api.ErrLetter},
		{api.Letter{Kind: 1, Text: long}, api.ErrLong},
		{api.Letter{Kind: 1, From: 1, C: 7, Text: long, Fake: true}, api.ErrLong},
		{api.Letter{Kind: 2, Text: long}, api.ErrLong},
		{api.Letter{Kind: 2, From: 1, Text: strings.Repeat("é", 33)}, api.ErrLong},
		{api.Letter{Kind: 4, Text: long}, api.ErrLong},
		{api.Letter{Kind: 4, From: 1, Text: strings.Repeat("x", 5000), Fake: true}, api.ErrLong},
		{api.Letter{Kind: 6, Text: long}, api.ErrLong},
		{api.Letter{Kind: 2, Text: "x", Fake: true}, api.ErrLetter},
		{api.Letter{Kind: 2, Text: long, Fake: true}, api.ErrLetter},
		{api.Letter{Kind: 6, Text: "x", Fake: true}, api.ErrLetter},
		{api.Letter{Kind: 6, Text: long, Fake: true}, api.ErrLetter},
		{api.Letter{Kind: 6, From: 1, Text: "x"}, api.ErrLetter},
		{api.Letter{Kind: 6, From: 1, Text: long}, api.ErrLetter},
	}
	for _, kind := range []int{3, 5, 7} {
		l = append(l, wrong{api.Letter{Kind: kind, From: 1}, api.ErrLetter}, wrong{api.Letter{Kind: kind, Fake: true}, api.ErrLetter}, wrong{api.Letter{Kind: kind, Text: "x"}, api.ErrLetter}, wrong{api.Letter{Kind: kind, Text: long}, api.ErrLetter}, wrong{api.Letter{Kind: kind, Text: "\x00"}, api.ErrLetter})
	}
	for _, n := range odd() {
		l = append(l, wrong{api.Letter{Kind: n, C: 7}, api.ErrLetter}, wrong{api.Letter{Kind: n, Text: long}, api.ErrLetter})
	}
	for _, n := range append(odd(), 2, 3, 7) {
		for kind := 1; kind <= 7; kind++ {
			l = append(l, wrong{api.Letter{Kind: kind, From: n}, api.ErrLetter}, wrong{api.Letter{Kind: kind, From: n, Text: long}, api.ErrLetter})
		}
	}
	return l
}

// filled is a pool of these terms and of numbers, with room for so many more.
func filled(t *testing.T, texts []string, room int) *term.Pool {
	t.Helper()
	p := term.New()
	for _, text := range texts {
		of(t, p, text)
	}
	for i := 0; p.Len() < api.MaxTerms-room; i++ {
		if _, why := p.Num(uint64(1000 + i)); why != api.OK {
			t.Fatalf("error %d", why)
		}
	}
	return p
}

// samePools fails if two pools do not have the same terms with the same numbers.
func samePools(t *testing.T, what string, p, q *term.Pool) {
	t.Helper()
	if p.Len() != q.Len() {
		t.Errorf("%s: %d terms instead of %d", what, p.Len(), q.Len())
	}
	for u := range q.Len() {
		a, _ := p.Node(api.Term(u + 1))
		b, _ := q.Node(api.Term(u + 1))
		if a != b {
			t.Errorf("%s: the term %d is %v instead of %v", what, u+1, a, b)
		}
	}
}

// makes fails if a call that makes a term did not answer that of this text.
func makes(t *testing.T, p *term.Pool, what, want string) func(api.Term, api.Errno) {
	t.Helper()
	return func(u api.Term, why api.Errno) {
		t.Helper()
		if speak.Print(p, u) != want || u == 0 || why != api.OK {
			t.Errorf("%s: %s, error %d instead of %s", what, speak.Print(p, u), why, want)
		}
	}
}

// refused fails if a call that makes a term did not answer this error alone.
func refused(t *testing.T, what string, want api.Errno) func(api.Term, api.Errno) {
	t.Helper()
	return func(u api.Term, why api.Errno) {
		t.Helper()
		if u != 0 || why != want {
			t.Errorf("%s: %d, error %d instead of error %d", what, u, why, want)
		}
	}
}

// isLetter fails if a call that reads did not answer this letter.
func isLetter(t *testing.T, what string, want api.Letter) func(api.Letter, bool) {
	t.Helper()
	return func(l api.Letter, ok bool) {
		t.Helper()
		if l != want || !ok {
			t.Errorf("%s: %s, %t instead of %s", what, tell(l), ok, tell(want))
		}
	}
}

// isNone fails if a call that reads answered a letter.
func isNone(t *testing.T, what string) func(api.Letter, bool) {
	t.Helper()
	return func(l api.Letter, ok bool) {
		t.Helper()
		if l != (api.Letter{}) || ok {
			t.Errorf("%s: %s, %t instead of none", what, tell(l), ok)
		}
	}
}

// all are a tree's nodes, itself first.
func all(x api.Tree) []api.Tree {
	l := []api.Tree{x}
	for _, kid := range x.Kids {
		l = append(l, all(kid)...)
	}
	return l
}

// judge is the letter of a tree: of all letters of its numbers and texts that whose term's text it has.
func judge(x api.Tree) (api.Letter, bool) {
	s := spell(x)
	numbers, texts := []uint64{}, []string{}
	for _, y := range all(x) {
		if y.Kind == api.KindNum && !slices.Contains(numbers, y.Num) {
			numbers = append(numbers, y.Num)
		}
		if y.Kind == api.KindData && !slices.Contains(texts, y.Text) {
			texts = append(texts, y.Text)
		}
	}
	for _, l := range letters(numbers, texts) {
		if slices.Contains(spellings(l), s) {
			return l, true
		}
	}
	return api.Letter{}, false
}

// spellings are the texts of the terms that are read as a letter.
func spellings(l api.Letter) []string {
	n, from := "#"+strconv.FormatUint(l.C, 10), strconv.Itoa(l.From)
	data := spell(api.Tree{Kind: api.KindData, Text: l.Text})
	d := `("deal" (` + n + ` ` + data + `))`
	ways := strings.NewReplacer("D", d, "F", from, "T", strconv.Itoa(1-l.From), "N", n)
	switch {
	case l.Kind == 1 && l.Fake:
		return []string{ways.Replace("fF>T(D)")}
	case l.Kind == 1:
		return []string{ways.Replace("pF>T(D)")}
	case l.Kind == 2:
		return []string{ways.Replace("sF(D)")}
	case l.Kind == 3:
		return []string{ways.Replace(`s0(("abort" N))`)}
	case l.Kind == 4 && l.Fake:
		return []string{ways.Replace(`sF(("resolve" (f0>1(D) f1>0(D))))`), ways.Replace(`sF(("resolve" (p0>1(D) f1>0(D))))`), ways.Replace(`sF(("resolve" (f0>1(D) p1>0(D))))`)}
	case l.Kind == 4:
		return []string{ways.Replace(`sF(("resolve" (p0>1(D) p1>0(D))))`)}
	case l.Kind == 5:
		return []string{ways.Replace(`s2(("aborted" N))`)}
	case l.Kind == 6:
		return []string{ways.Replace(`s2(("instead" D))`)}
	}
	return []string{ways.Replace(`("full" N)`)}
}

// neighbours are trees that are unlike a tree in one of its nodes.
func neighbours(t *testing.T, x api.Tree) []api.Tree {
	t.Helper()
	var l []api.Tree
	for _, y := range others(t, x) {
		if spell(y) != "" {
			l = append(l, y)
		}
	}
	for i := range x.Kids {
		for _, kid := range neighbours(t, x.Kids[i]) {
			y := x
			y.Kids = slices.Clone(x.Kids)
			y.Kids[i] = kid
			l = append(l, y)
		}
	}
	return l
}

// others are what may stand in a node's place: other terms, and what is unlike it in one field.
func others(t *testing.T, x api.Tree) []api.Tree {
	t.Helper()
	l := slices.Clone(x.Kids)
	for _, text := range []string{`#7`, `#8`, `"x"`, `""`, `"7"`, `n0`, `n1`, `k0`, `h(#7)`, `"deal"`, `"abort"`, `"aborted"`, `"resolve"`, `"instead"`, `"full"`, `"promise"`, `"sign"`, `"token"`, `"Deal"`, `"deal\x00"`, `"dea"`, `(#7 "x")`, `("deal" #7)`, deal7, `p0>1(` + deal7 + `)`, `p1>0(` + deal7 + `)`, `f0>1(` + deal7 + `)`, `s0(` + deal7 + `)`} {
		l = append(l, treeOf(t, text))
	}
	for kind := 1; kind <= 9; kind++ {
		y := x
		y.Kind = kind
		l = append(l, y)
		y.To = 0
		l = append(l, y)
		y.From = 0
		l = append(l, y)
		y.From, y.To = 0, 1
		l = append(l, y)
	}
	for from := range api.MaxNames {
		for to := range 4 {
			y := x
			y.From, y.To = from, to
			l = append(l, y)
		}
	}
	if len(x.Kids) == 2 {
		y := x
		y.Kids = []api.Tree{x.Kids[1], x.Kids[0]}
		l = append(l, y)
	}
	whole := []api.Tree{x}
	return append(l, api.Tree{Kind: 5, Kids: whole}, api.Tree{Kind: 7, Kids: whole}, api.Tree{Kind: 7, From: 2, Kids: whole}, api.Tree{Kind: 8, To: 1, Kids: whole}, api.Tree{Kind: 9, To: 1, Kids: whole}, api.Tree{Kind: 4, Kids: []api.Tree{x, x}})
}

// parsed fails if Parse of a line does not answer this letter.
func parsed(t *testing.T, s string, want api.Letter) {
	t.Helper()
	if l, why, at := letter.Parse(s); l != want || why != api.OK || at != 0 {
		t.Errorf("%q: %s, error %d at %d instead of %s", s, tell(l), why, at, tell(want))
	}
}

// misread fails if Parse of a line does not answer this error alone.
func misread(t *testing.T, s string, want api.Errno, place int) {
	t.Helper()
	if l, why, at := letter.Parse(s); l != (api.Letter{}) || why != want || at != place {
		t.Errorf("%q: %s, error %d at %d instead of error %d at %d", s, tell(l), why, at, want, place)
	}
}
