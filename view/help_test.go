package view_test

import (
	"math"
	"slices"
	"strconv"
	"strings"
	"testing"

	"escrow/api"
	"escrow/speak"
	"escrow/term"
	"escrow/view"
)

// dice is a row of numbers that looks like chance, the same each time.
type dice uint64

func (d *dice) upTo(n int) int {
	*d = *d*6364136223846793005 + 1442695040888963407
	return int(uint64(*d) >> 33 % uint64(n))
}

// strange are numbers that are no term of a pool of so many.
func strange(long int) []api.Term {
	return []api.Term{0, -1, -2, api.Term(long) + 1, api.Term(long) + 2, math.MinInt, math.MinInt + 1, math.MaxInt - 1, math.MaxInt}
}

// noNames are numbers that name none, though many a shorter int of them would.
func noNames() []int {
	return []int{-1, -2, -15, -16, 16, 17, 32, 256, 257, 1 << 16, 1 << 32, 1<<32 + 1, math.MinInt, math.MinInt + 1, math.MinInt32, math.MaxInt32, math.MaxInt - 1, math.MaxInt}
}

// of is the term of a text.
func of(t *testing.T, p *term.Pool, text string) api.Term {
	t.Helper()
	u, why, at := speak.Parse(p, text)
	if u == 0 || why != api.OK {
		t.Fatalf("%s: error %d at %d", text, why, at)
	}
	return u
}

// list are the terms of texts that stand behind one another with a comma between.
func list(t *testing.T, p *term.Pool, texts string) []api.Term {
	t.Helper()
	var l []api.Term
	for text := range strings.SplitSeq(texts, ", ") {
		if text != "" {
			l = append(l, of(t, p, text))
		}
	}
	return l
}

func shown(p *term.Pool, l []api.Term) string {
	var texts []string
	for _, u := range l {
		texts = append(texts, speak.Print(p, u))
	}
	return strings.Join(texts, ", ")
}

// few is a pool of few terms, promises and fakes of many names in them in many ways; and those that were asked for.
func few(t *testing.T) (*term.Pool, []api.Term) {
	t.Helper()
	p := term.New()
	l := list(t, p, `#1, k0, p0>1(#1), f0>1(#1), p1>0(#1), f1>0(#1), p3>4(#1), f3>4(#1), p0>2(#1), f0>2(#1), p2>1(#1), f2>1(#1), h(p0>1(#1)), h(f0>1(#1)), s3(f0>1(#1)), s3(p0>1(#1))`)
	l = append(l, list(t, p, `(p0>1(#1) f0>1(#1)), (f0>1(#1) p0>1(#1)), (p0>1(#1) p0>1(#1)), (f0>1(#1) f0>1(#1)), p0>1(p0>1(#1)), p0>1(f0>1(#1)), f0>1(p0>1(#1)), f0>1(f0>1(#1)), p1>0(p3>4(#1)), p1>0(f3>4(#1)), f1>0(p3>4(#1)), f3>4(h(f1>0(#1))), p3>4(h(p1>0(#1)))`)...)
	return p, l
}

// watchers are those named in the few terms, and others.
func watchers() []int {
	return []int{0, 1, 2, 3, 4, 5, 15}
}

// anyText is a term's text of few words, so that alike ones come often.
func anyText(d *dice, deep int) string {
	if deep == 0 || d.upTo(6) == 0 {
		return []string{"#1", "#1", "#1", "n2", `"a"`, "k0"}[d.upTo(6)]
	}
	two := []string{"0>1", "0>1", "1>0", "3>1", "0>2", "2>3", "4>0"}[d.upTo(7)]
	switch d.upTo(7) {
	case 0:
		return "h(" + anyText(d, deep-1) + ")"
	case 1:
		return "s" + strconv.Itoa(d.upTo(4)) + "(" + anyText(d, deep-1) + ")"
	case 2, 3:
		return "p" + two + "(" + anyText(d, deep-1) + ")"
	case 4:
		return "f" + two + "(" + anyText(d, deep-1) + ")"
	}
	return "(" + anyText(d, deep-1) + " " + anyText(d, deep-1) + ")"
}

// spell writes a tree: two are the same just if their texts are.
func spell(x api.Tree) string {
	s, _ := speak.Show(x)
	return s
}

func spellAll(l []api.Tree) string {
	var texts []string
	for _, x := range l {
		texts = append(texts, spell(x))
	}
	return strings.Join(texts, ", ")
}

func trees(p *term.Pool, l []api.Term) []api.Tree {
	var out []api.Tree
	for _, u := range l {
		out = append(out, p.Tree(u))
	}
	return out
}

// all are a tree's nodes, itself first.
func all(x api.Tree) []api.Tree {
	l := []api.Tree{x}
	for _, kid := range x.Kids {
		l = append(l, all(kid)...)
	}
	return l
}

// changed is a tree in which each node was changed, by what it was.
func changed(x api.Tree, change func(was api.Tree) int) api.Tree {
	y := x
	y.Kind, y.Kids = change(x), nil
	for _, kid := range x.Kids {
		y.Kids = append(y.Kids, changed(kid, change))
	}
	return y
}

// hidden is whether who cannot say if a tree is a promise or a fake, though it is one.
func hidden(who int, x api.Tree) bool {
	return (x.Kind == 8 || x.Kind == 9) && !slices.Contains([]int{x.From, x.To, 2}, who)
}

// judgeView is what View should tell.
func judgeView(who int, x api.Tree) api.Tree {
	return changed(x, func(was api.Tree) int {
		if hidden(who, was) {
			return 8
		}
		return was.Kind
	})
}

func judgeFrame(who int, l []api.Tree) []api.Tree {
	var out []api.Tree
	for _, x := range l {
		out = append(out, judgeView(who, x))
	}
	return out
}

// judgeSwap is what Swap should tell.
func judgeSwap(to int, x api.Tree) api.Tree {
	return changed(x, func(was api.Tree) int {
		if was.Kind == 8 && was.To == to {
			return 9
		}
		return was.Kind
	})
}

// judgeLook is all that who finds in a list: its views, and which of its nodes are the same. Two lists should be alike just if these are.
func judgeLook(who int, l []api.Tree) string {
	look := spellAll(judgeFrame(who, l))
	first := map[string]int{}
	for _, x := range l {
		for _, y := range all(x) {
			s := spell(y)
			if _, met := first[s]; !met {
				first[s] = len(first)
			}
			look += " " + strconv.Itoa(first[s])
		}
	}
	return look
}

// filled is a pool of these terms and of numbers, with room for so many more.
func filled(t *testing.T, texts string, room int) (*term.Pool, []api.Term) {
	t.Helper()
	p := term.New()
	l := list(t, p, texts)
	for i := 0; p.Len() < api.MaxTerms-room; i++ {
		if _, why := p.Num(uint64(1000 + i)); why != api.OK {
			t.Fatalf("error %d", why)
		}
	}
	return p, l
}

// broad is a text of pairs, so many in one another: of many nodes as a tree, and few as terms.
func broad(pairs int, text string) string {
	for range pairs {
		text = "(" + text + " " + text + ")"
	}
	return text
}

// tower is a text of a term inside so many others.
func tower(others int, front, text string) string {
	return strings.Repeat(front+"(", others) + text + strings.Repeat(")", others)
}

// makes fails if a call that makes a term did not answer that of this text.
func makes(t *testing.T, p *term.Pool, what, want string) func(api.Term, api.Errno) {
	t.Helper()
	return func(u api.Term, why api.Errno) {
		t.Helper()
		if speak.Print(p, u) != want || u == 0 || why != api.OK {
			t.Errorf("%s: %s, error %d instead of %s", what, speak.Print(p, u), why, want)
		}
	}
}

// refused fails if a call that makes a term did not answer this error alone.
func refused(t *testing.T, what string, want api.Errno) func(api.Term, api.Errno) {
	t.Helper()
	return func(u api.Term, why api.Errno) {
		t.Helper()
		if u != 0 || why != want {
			t.Errorf("%s: %d, error %d instead of error %d", what, u, why, want)
		}
	}
}

// refusedAll fails if Frame or Classes does not answer this error alone.
func refusedAll(t *testing.T, p *term.Pool, who int, l []api.Term, want api.Errno) {
	t.Helper()
	if views, why := view.Frame(p, who, l); len(views) != 0 || why != want {
		t.Errorf("Frame for %d of %v: %v, error %d instead of error %d", who, l, views, why, want)
	}
	if classes, why := view.Classes(p, who, l); len(classes) != 0 || why != want {
		t.Errorf("Classes for %d of %v: %v, error %d instead of error %d", who, l, classes, why, want)
	}
}

// still fails if a pool has not just so many terms, as these trees tell of the first of them.
func still(t *testing.T, p *term.Pool, long int, was []api.Tree) {
	t.Helper()
	if p.Len() != long {
		t.Errorf("%d terms instead of %d", p.Len(), long)
	}
	for i, x := range was {
		if got := spell(p.Tree(api.Term(i + 1))); got != spell(x) {
			t.Errorf("the term %d is %s instead of %s", i+1, got, spell(x))
		}
	}
}

// untouched fails if a call changes a list that is handed in, or its spare room.
func untouched(t *testing.T, l []api.Term, call func(l []api.Term)) {
	t.Helper()
	room := append(slices.Clone(l), 77, -78, 79)
	before := slices.Clone(room)
	call(room[:len(l)])
	if !slices.Equal(room, before) {
		t.Errorf("%v are %v", before, room)
	}
}

// shortLists are all lists of two few terms, of one, and of none.
func shortLists(t *testing.T) (*term.Pool, [][]api.Term) {
	p, l := few(t)
	pairs := [][]api.Term{nil}
	for _, a := range l {
		pairs = append(pairs, []api.Term{a})
		for _, b := range l {
			pairs = append(pairs, []api.Term{a, b})
		}
	}
	return p, pairs
}

// flipped is a list that may well be alike to another: promises and fakes that who does not tell are turned, mostly the same ones each time.
func flipped(d *dice, who int, l []api.Tree) []api.Tree {
	turned := map[string]int{}
	faulty := d.upTo(2) == 0
	var out []api.Tree
	for _, x := range l {
		out = append(out, changed(x, func(was api.Tree) int {
			if !hidden(who, was) {
				return was.Kind
			}
			s := spell(judgeView(who, was)) + spellAll(was.Kids) // a promise and a fake of the same are turned both, or neither
			if _, met := turned[s]; !met {
				turned[s] = d.upTo(2)
			}
			if faulty && d.upTo(3) == 0 {
				return 8 + d.upTo(2)
			}
			return 8 + (was.Kind+turned[s])%2
		}))
	}
	return out
}

// btoi is 1 of what is so.
func btoi(b bool) int {
	if b {
		return 1
	}
	return 0
}
