package evidence_test

import (
	"math"
	"slices"
	"strconv"
	"strings"
	"testing"

	"escrow/api"
	"escrow/speak"
	"escrow/term"
)

// dice is a row of numbers that looks like chance, the same each time.
type dice uint64

func (d *dice) upTo(n int) int {
	*d = *d*6364136223846793005 + 1442695040888963407
	return int(uint64(*d) >> 33 % uint64(n))
}

// strange are numbers that are no term of a pool of so many.
func strange(long int) []api.Term {
	return []api.Term{0, -1, -2, api.Term(long) + 1, api.Term(long) + 2, math.MinInt, math.MinInt + 1, math.MaxInt - 1, math.MaxInt}
}

// noParties are numbers that are neither 0 nor 1, though many a shorter int of them would be.
func noParties() []int {
	return []int{-1, -2, 2, 3, 15, 16, 255, 256, 257, 1 << 16, 1<<16 + 1, 1 << 32, 1<<32 + 1, math.MinInt, math.MinInt + 1, math.MinInt32, math.MaxInt - 1, math.MaxInt}
}

// of is the term of a text.
func of(t *testing.T, p *term.Pool, text string) api.Term {
	t.Helper()
	u, why, at := speak.Parse(p, text)
	if u == 0 || why != api.OK {
		t.Fatalf("%s: error %d at %d", text, why, at)
	}
	return u
}

// list are the terms of these texts.
func list(t *testing.T, p *term.Pool, texts ...string) []api.Term {
	t.Helper()
	var l []api.Term
	for _, text := range texts {
		l = append(l, of(t, p, text))
	}
	return l
}

func shown(p *term.Pool, l []api.Term) string {
	var texts []string
	for _, u := range l {
		texts = append(texts, speak.Print(p, u))
	}
	return strings.Join(texts, ", ")
}

// tell writes facts for whoever reads a failed test: two lists are the same just if their texts are.
func tell(l []api.Fact) string {
	s := ""
	for _, f := range l {
		s += "{" + strconv.Itoa(f.Kind) + " of " + strconv.Itoa(f.Who) + ", " + strconv.FormatUint(f.C, 10) + " " + strconv.Quote(f.Text) + "}"
	}
	return s
}

// facts fails if a list of facts is not this one.
func facts(t *testing.T, what string, got, want []api.Fact) {
	t.Helper()
	if tell(got) != tell(want) {
		t.Errorf("%s: %s instead of %s", what, tell(got), tell(want))
	}
}

// deal is the text of the deal of a contract with a text.
func deal(c uint64, text string) string {
	data, _ := speak.Show(api.Tree{Kind: api.KindData, Text: text})
	return `("deal" (#` + strconv.FormatUint(c, 10) + ` ` + data + `))`
}

// both puts a deal, and others, into a text: D stands for the deal of 7 and x, E for that of 8 and x, Y for that of 7 and y.
func both(text string) string {
	return strings.NewReplacer("D", deal(7, "x"), "E", deal(8, "x"), "Y", deal(7, "y")).Replace(text)
}

// table are the facts of all letters of these contracts and texts, by the texts of their terms: those of letters without facts are none.
func table(numbers []uint64, texts []string) map[string][]api.Fact {
	m := map[string][]api.Fact{}
	for _, c := range numbers {
		n := "#" + strconv.FormatUint(c, 10)
		m[`s0(("abort" `+n+`))`] = []api.Fact{{Kind: 3, Who: 0, C: c}}
		m[`s2(("aborted" `+n+`))`] = []api.Fact{{Kind: 5, Who: 2, C: c}}
		m[`("full" `+n+`)`] = nil
		for _, s := range texts {
			lay(m, c, s)
		}
	}
	return m
}

// lay puts into a table the facts of all letters of a deal.
func lay(m map[string][]api.Fact, c uint64, s string) {
	d := "(" + deal(c, s) + ")"
	fact := func(kind, who int) api.Fact { return api.Fact{Kind: kind, Who: who, C: c, Text: s} }
	m["p0>1"+d] = []api.Fact{fact(1, 0)}
	m["p1>0"+d] = []api.Fact{fact(1, 1)}
	m["f0>1"+d] = nil
	m["f1>0"+d] = nil
	for from := range 2 {
		who := "s" + strconv.Itoa(from)
		m[who+d] = []api.Fact{fact(2, from)}
		wish := func(a, b string) string { return who + `(("resolve" (` + a + d + ` ` + b + d + `)))` }
		m[wish("p0>1", "p1>0")] = []api.Fact{fact(4, from), fact(1, 0), fact(1, 1)}
		m[wish("f0>1", "p1>0")] = []api.Fact{fact(4, from)}
		m[wish("p0>1", "f1>0")] = []api.Fact{fact(4, from)}
		m[wish("f0>1", "f1>0")] = []api.Fact{fact(4, from)}
	}
	m[`s2(("instead" `+deal(c, s)+`))`] = []api.Fact{fact(6, 2), fact(2, 0), fact(2, 1)}
}

// small is the table of all letters that the tests by chance speak of.
func small() map[string][]api.Fact {
	return table([]uint64{7, 8}, []string{"x", "y"})
}

// rising are the texts of a table, in order.
func rising(m map[string][]api.Fact) []string {
	var l []string
	for text := range m {
		l = append(l, text)
	}
	slices.Sort(l)
	return l
}

// none are texts of terms that are no letters, many of them nearly one.
func none() []string {
	l := []string{
		"#7", `"x"`, `"deal"`, `"resolve"`, "n0", "n1", "k0", "k2", "D", `("deal" #7)`, `(#7 "x")`, "h(D)", "h(s0(D))", "h(p0>1(D))",
		"p0>2(D)", "p2>1(D)", "p2>0(D)", "p1>2(D)", "p3>4(D)", "f0>2(D)", "f2>0(D)", "p0>1(#7)", "p0>1(s0(D))", "p0>1(p0>1(D))", `p0>1(("abort" #7))`,
		"s2(D)", "s3(D)", "s15(D)", "s0(s0(D))", "s0(p0>1(D))", `s0(("deal" #7))`, "s0(#7)",
		`s1(("abort" #7))`, `s2(("abort" #7))`, `s0(("abort" "x"))`, `s0(("abort" D))`, `("abort" #7)`,
		`s0(("aborted" #7))`, `s1(("aborted" #7))`, `s2(("aborted" n7))`, `("aborted" #7)`,
		`s0(("instead" D))`, `s1(("instead" D))`, `s3(("instead" D))`, `s2(("instead" #7))`, `("instead" D)`, `s2(("full" #7))`, `("full" n7)`, `("full" D)`,
		`s2(("resolve" (p0>1(D) p1>0(D))))`, `s3(("resolve" (p0>1(D) p1>0(D))))`, `("resolve" (p0>1(D) p1>0(D)))`, `(p0>1(D) p1>0(D))`, `s0((p0>1(D) p1>0(D)))`,
		`s0(("resolve" (p1>0(D) p0>1(D))))`, `s0(("resolve" (p0>1(D) p0>1(D))))`, `s0(("resolve" (p0>1(D) p1>0(E))))`, `s0(("resolve" (p0>1(D) p1>0(Y))))`, `s1(("resolve" (f0>1(E) p1>0(D))))`, `s0(("resolve" (s0(D) s1(D))))`, `s0(("resolve" (p0>1(D) s1(D))))`, `s0(("resolve" D))`, `s0(("resolve" p0>1(D)))`,
		"(s0(D) n0)", "(s0(D) s1(D))", `(s2(("instead" D)) s0(D))`, `s3(s2(("instead" D)))`,
	}
	for i, text := range l {
		l[i] = both(text)
	}
	return l
}

// seen are the nodes of a tree that whoever has it finds: not what stands in a hash.
func seen(x api.Tree) []api.Tree {
	l := []api.Tree{x}
	if x.Kind == api.KindHash {
		return l
	}
	for _, kid := range x.Kids {
		l = append(l, seen(kid)...)
	}
	return l
}

// said are the texts of all that is seen in terms, those that are none of the pool passed over.
func said(p *term.Pool, l []api.Term) []string {
	var texts []string
	for _, u := range l {
		if _, there := p.Node(u); !there {
			continue
		}
		for _, x := range seen(p.Tree(u)) {
			s, _ := speak.Show(x)
			texts = append(texts, s)
		}
	}
	return texts
}

// ahead is whether the first of two facts stands ahead of the second.
func ahead(a, b api.Fact) bool {
	switch {
	case a.C != b.C:
		return a.C < b.C
	case a.Kind != b.Kind:
		return a.Kind < b.Kind
	case a.Who != b.Who:
		return a.Who < b.Who
	}
	return string([]byte(a.Text)) < string([]byte(b.Text))
}

// judgeAll is what All should tell, if this table has all letters that are seen: each fact is put in its place.
func judgeAll(m map[string][]api.Fact, p *term.Pool, l []api.Term) []api.Fact {
	var out []api.Fact
	for _, s := range said(p, l) {
		for _, f := range m[s] {
			i := 0
			for i < len(out) && ahead(out[i], f) {
				i++
			}
			if i == len(out) || out[i] != f {
				out = slices.Insert(out, i, f)
			}
		}
	}
	return out
}

// anyText is the text of a letter's term, of a term that is nearly one, or of others with these in them.
func anyText(d *dice, letters, others []string, deep int) string {
	if deep == 0 || d.upTo(3) == 0 {
		if d.upTo(4) == 0 {
			return others[d.upTo(len(others))]
		}
		return letters[d.upTo(len(letters))]
	}
	inner := anyText(d, letters, others, deep-1)
	switch d.upTo(6) {
	case 0:
		return "h(" + inner + ")"
	case 1:
		return "s" + strconv.Itoa(d.upTo(4)) + "(" + inner + ")"
	case 2:
		return []string{"p0>1", "p1>0", "p3>4", "f0>1", "f2>0"}[d.upTo(5)] + "(" + inner + ")"
	}
	return "(" + inner + " " + anyText(d, letters, others, deep-1) + ")"
}

// filled is a pool of these terms and of numbers, with room for so many more.
func filled(t *testing.T, room int, texts ...string) *term.Pool {
	t.Helper()
	p := term.New()
	list(t, p, texts...)
	for i := 0; p.Len() < api.MaxTerms-room; i++ {
		if _, why := p.Num(uint64(1000 + i)); why != api.OK {
			t.Fatalf("error %d", why)
		}
	}
	return p
}

// makes fails if a call that makes a term did not answer that of this text.
func makes(t *testing.T, p *term.Pool, what, want string) func(api.Term, api.Errno) {
	t.Helper()
	return func(u api.Term, why api.Errno) {
		t.Helper()
		if speak.Print(p, u) != want || u == 0 || why != api.OK {
			t.Errorf("%q: %d %q, error %d instead of %q", what, u, speak.Print(p, u), why, want)
		}
	}
}

// refused fails if a call that makes a term did not answer this error alone.
func refused(t *testing.T, what string, want api.Errno) func(api.Term, api.Errno) {
	t.Helper()
	return func(u api.Term, why api.Errno) {
		t.Helper()
		if u != 0 || why != want {
			t.Errorf("%s: %d, error %d instead of error %d", what, u, why, want)
		}
	}
}
