package recipe_test

import (
	"math"
	"slices"
	"strconv"
	"strings"
	"testing"

	"escrow/api"
	"escrow/deduce"
	"escrow/recipe"
	"escrow/speak"
	"escrow/term"
)

// dice is a row of numbers that looks like chance, the same each time.
type dice uint64

func (d *dice) upTo(n int) int {
	*d = *d*6364136223846793005 + 1442695040888963407
	return int(uint64(*d) >> 33 % uint64(n))
}

// strange are numbers that are none from 0 on to this end.
func strange(end int) []int {
	return []int{-1, -2, -end, end, end + 1, math.MinInt, math.MinInt + 1, math.MinInt32, math.MaxInt32, math.MaxInt - 1, math.MaxInt}
}

// noNames are numbers that name none, though many a shorter int of them would.
func noNames() []uint64 {
	return []uint64{16, 17, 255, 256, 257, 1 << 16, 1 << 31, 1<<31 + 1, 1 << 32, 1<<32 + 1, 1<<32 + 2, 1 << 63, 1<<63 + 1, 1<<63 + 2, 1<<64 - 1}
}

// of is the term of a text.
func of(t *testing.T, p *term.Pool, text string) api.Term {
	t.Helper()
	u, why, at := speak.Parse(p, text)
	if u == 0 || why != api.OK {
		t.Fatalf("%s: error %d at %d", text, why, at)
	}
	return u
}

// list are the terms of texts that stand behind one another with a comma between.
func list(t *testing.T, p *term.Pool, texts string) []api.Term {
	t.Helper()
	var l []api.Term
	for text := range strings.SplitSeq(texts, ", ") {
		if text != "" {
			l = append(l, of(t, p, text))
		}
	}
	return l
}

func shown(p *term.Pool, l []api.Term) string {
	var texts []string
	for _, u := range l {
		texts = append(texts, speak.Print(p, u))
	}
	return strings.Join(texts, ", ")
}

// knowing is one who was given these.
func knowing(t *testing.T, p *term.Pool, l []api.Term) *deduce.Know {
	t.Helper()
	k := deduce.New(p)
	for _, u := range l {
		if why := k.Add(u); why != api.OK {
			t.Fatalf("Add(%d): error %d", u, why)
		}
	}
	return k
}

// told is a pool, and one who was given the terms of these texts.
func told(t *testing.T, texts string) (*term.Pool, *deduce.Know) {
	t.Helper()
	p := term.New()
	return p, knowing(t, p, list(t, p, texts))
}

// few is a pool of few terms of each kind, one in another in many ways.
func few(t *testing.T) *term.Pool {
	t.Helper()
	p := term.New()
	list(t, p, `k0, k1, #1, n2, "a", h(k0), h(#1), (k0 k1), (#1 k0), s0(#1), s1(k0), s0(k1), s2(#1), p0>1(#1), p1>0(k1), f0>1(#1), f1>0(#1), f0>1(k0), f2>3(k1)`)
	list(t, p, `s1((#1 k0)), s0(s1(k0)), p0>1(s0(k1)), h(s0(#1)), (s0(#1) h(k0)), h((k0 k1)), f1>0(h(h(k1))), s0(h(k1)), p1>0(f0>1(k0)), ((k0 k1) n2), s3((k0 #1))`)
	return p
}

// size and depth of a tree's term.
func size(x api.Tree) int {
	n := 1
	for _, kid := range x.Kids {
		n += size(kid)
	}
	return n
}

func depth(x api.Tree) int {
	n := 0
	for _, kid := range x.Kids {
		n = max(n, depth(kid))
	}
	return n + 1
}

// judge is what the operations should make, as trees, up to the first that cannot be done, and why that cannot; in a pool that has room.
func judge(given []api.Tree, l []api.Op) (made []api.Tree, why api.Errno) {
	for _, o := range l {
		x, why := judgeOne(given, made, o)
		if why != api.OK {
			return made, why
		}
		made = append(made, x)
	}
	return made, api.OK
}

// judgeOne is what one operation should make, with these made ahead of it.
func judgeOne(given, made []api.Tree, o api.Op) (api.Tree, api.Errno) {
	var a, b api.Tree // of Kind 0, where there is none
	if o.A >= 0 && o.A < len(made) {
		a = made[o.A]
	}
	if o.B >= 0 && o.B < len(made) {
		b = made[o.B]
	}
	x := api.Tree{Kids: []api.Tree{a}}
	switch {
	case o.Code == 0 && o.A >= 0 && o.A < len(given):
		return given[o.A], api.OK
	case o.Code == 1:
		x = api.Tree{Kind: api.KindName, From: o.A}
	case o.Code == 2:
		x = api.Tree{Kind: api.KindNum, Num: o.Num}
	case o.Code == 3:
		x = api.Tree{Kind: api.KindData, Text: o.Text}
	case o.Code == 4 && a.Kind != 0 && b.Kind != 0:
		x = api.Tree{Kind: api.KindPair, Kids: []api.Tree{a, b}}
	case o.Code == 5 && a.Kind != 0:
		x.Kind = api.KindHash
	case o.Code == 6 && a.Kind == api.KindPair:
		return a.Kids[0], api.OK
	case o.Code == 7 && a.Kind == api.KindPair:
		return a.Kids[1], api.OK
	case o.Code == 8 && a.Kind >= api.KindSign:
		return a.Kids[0], api.OK
	case o.Code == 9 && a.Kind != 0 && b.Kind == api.KindKey:
		x.Kind, x.From = api.KindSign, b.From
	case o.Code == 10 && a.Kind != 0 && b.Kind == api.KindKey:
		x.Kind, x.From, x.To = api.KindProm, b.From, judgeName(o.Num)
	case o.Code == 11 && a.Kind != 0 && b.Kind == api.KindKey:
		x.Kind, x.From, x.To = api.KindFake, judgeName(o.Num), b.From
	default:
		return api.Tree{}, api.ErrOp
	}
	return judgeMade(x)
}

func judgeName(n uint64) int {
	if n > 15 {
		return 16
	}
	return int(n)
}

// judgeMade refuses a tree that no pool takes.
func judgeMade(x api.Tree) (api.Tree, api.Errno) {
	switch {
	case x.From < 0 || x.From > 15 || x.To > 15 || x.Kind >= api.KindProm && x.From == x.To:
		return api.Tree{}, api.ErrName
	case len(x.Text) > api.MaxData:
		return api.Tree{}, api.ErrLong
	case size(x) > api.MaxSize || depth(x) > api.MaxDepth:
		return api.Tree{}, api.ErrLarge
	}
	return x, api.OK
}

// trees are those of what one was given.
func trees(p *term.Pool, k *deduce.Know) []api.Tree {
	var l []api.Tree
	for _, u := range k.Given() {
		l = append(l, p.Tree(u))
	}
	return l
}

// holds fails if Eval or Trace of operations tells otherwise than the judge does.
func holds(t *testing.T, p *term.Pool, k *deduce.Know, l []api.Op) {
	t.Helper()
	want, why := judge(trees(p, k), l)
	long, last := 0, "" // of Eval's answer
	if why != api.OK {
		long = len(want)
	} else {
		last, _ = speak.Show(want[len(want)-1])
	}
	u, e, at := recipe.Eval(p, k, l)
	if got := speak.Print(p, u); got != last || e != why || at != long || (e == api.OK) != (u != 0) {
		t.Fatalf("given %s, %v: Eval: %s, %d, %d instead of %s, %d, %d", shown(p, k.Given()), l, got, e, at, last, why, long)
	}
	got := recipe.Trace(p, k, l)
	if len(got) != len(want) {
		t.Fatalf("given %s, %v: Trace: %s, %d instead of %d", shown(p, k.Given()), l, shown(p, got), len(got), len(want))
	}
	for i, u := range got {
		if text, _ := speak.Show(want[i]); speak.Print(p, u) != text {
			t.Fatalf("given %s, %v: Trace: %s in the place %d instead of %s", shown(p, k.Given()), l, speak.Print(p, u), i, text)
		}
	}
}

// makes fails if Eval of operations does not make the term of a text.
func makes(t *testing.T, p *term.Pool, k *deduce.Know, l []api.Op, text string) {
	t.Helper()
	u, why, at := recipe.Eval(p, k, l)
	if speak.Print(p, u) != text || why != api.OK || at != 0 {
		t.Errorf("%v: %s, %d, %d instead of %s", l, speak.Print(p, u), why, at, text)
	}
}

// refuses fails if Eval of operations does not tell this error of the operation at this number, or Trace another number of terms.
func refuses(t *testing.T, p *term.Pool, k *deduce.Know, l []api.Op, why api.Errno, at int) {
	t.Helper()
	u, e, i := recipe.Eval(p, k, l)
	if u != 0 || e != why || i != at {
		t.Errorf("%v: %d, %d, %d instead of %d at %d", l, u, e, i, why, at)
	}
	if got := recipe.Trace(p, k, l); len(got) != at {
		t.Errorf("%v: Trace: %v", l, got)
	}
}

// anyKnow is a pool of few terms, and one who was given some of them, a key often.
func anyKnow(t *testing.T, d *dice) (*term.Pool, *deduce.Know) {
	t.Helper()
	p := few(t)
	l := []api.Term{api.Term(1 + d.upTo(4))}
	for range d.upTo(6) {
		l = append(l, api.Term(1+d.upTo(p.Len())))
	}
	return p, knowing(t, p, l)
}

// anyOp is an operation that may stand behind so many.
func anyOp(d *dice, given, number int) api.Op {
	o := api.Op{Code: d.upTo(12), A: d.upTo(number + 1), B: d.upTo(number + 1), Num: uint64(d.upTo(4)), Text: "abc"[:d.upTo(4)]}
	switch {
	case o.Code == api.OpKnown || d.upTo(4) == 0:
		o.Code, o.A = api.OpKnown, d.upTo(given+1)
	case o.Code == api.OpName:
		o.A = d.upTo(api.MaxNames)
	}
	return o
}

// wrongOp is an operation with a fault that has no part where the code does not name the field.
func wrongOp(d *dice, o api.Op, number int) api.Op {
	wrong := strange(number)[d.upTo(11)]
	switch d.upTo(5) {
	case 0:
		o.A = wrong
	case 1:
		o.B = wrong
	case 2:
		o.Num = noNames()[d.upTo(len(noNames()))]
	case 3:
		o.Code = strange(12)[d.upTo(11)]
	case 4:
		o.Code, o.Text = api.OpData, strings.Repeat(strconv.Itoa(number), 65)
	}
	return o
}

// anyOps are operations that look like chance; mostly they can be done.
func anyOps(d *dice, given []api.Tree) []api.Op {
	var l []api.Op
	var made []api.Tree
	for range 1 + d.upTo(20) {
		o := anyOp(d, len(given), len(l))
		for range 30 { // thrown again, till it can be done
			if _, why := judgeOne(given, made, o); why == api.OK {
				break
			}
			o = anyOp(d, len(given), len(l))
		}
		if d.upTo(20) == 0 {
			o = wrongOp(d, o, len(l))
		}
		x, _ := judgeOne(given, made, o)
		l, made = append(l, o), append(made, x)
	}
	return l
}

// untouched fails if a call changes operations that are handed in, or their spare room.
func untouched(t *testing.T, l []api.Op, call func(l []api.Op)) {
	t.Helper()
	room := append(slices.Clone(l), api.Op{Code: 77, A: -7, Text: "spare"}, api.Op{Code: 78})
	before := slices.Clone(room)
	call(room[:len(l)])
	if !slices.Equal(room, before) {
		t.Errorf("%v are %v", before, room)
	}
}
