package term_test

import (
	"math"
	"strings"
	"testing"

	"escrow/api"
	"escrow/term"
)

// P5.5: the subterms are made from the front, those of a node ahead of it, each once.
func TestOf(t *testing.T) {
	p := term.New()
	var l plain
	for range 2 {
		for _, x := range trees() {
			before := spell(x)
			holds(t, before, l.lay(x), api.OK)(p.Of(x))
			if spell(x) != before {
				t.Fatalf("%s became %s", before, spell(x))
			}
		}
		tells(t, p, l)
	}
	q := term.New()
	of(t, q, pair(sign(0, data("a")), pair(name(1), data("a"))))
	tells(t, q, plain{data("a"), sign(0, data("a")), name(1), pair(name(1), data("a")), pair(sign(0, data("a")), pair(name(1), data("a")))})
}

// P5.5: an empty list of kids is the same as none.
func TestOfEmptyKids(t *testing.T) {
	p := term.New()
	x := name(3)
	x.Kids = make([]api.Tree, 0, 4)
	holds(t, "with an empty list", 1, api.OK)(p.Of(x))
	holds(t, "without a list", 1, api.OK)(p.Of(name(3)))
}

// wrongTrees are trees of one wrong node, by the error of it.
func wrongTrees() map[api.Errno][]api.Tree {
	a := data("a")
	with := func(x api.Tree, kids ...api.Tree) api.Tree {
		x.Kids = kids
		return x
	}
	return map[api.Errno][]api.Tree{
		api.ErrTree: {
			{}, {Kind: -1}, {Kind: 10}, {Kind: math.MinInt}, {Kind: math.MaxInt}, {Kind: 10, From: -1},
			with(name(0), a), with(num(0), a), with(data("a"), a), with(key(0), a, a), with(name(-1), a),
			with(hash(a)), with(hash(a), a, a), with(sign(0, a)), with(sign(0, a), a, a), with(sign(-1, a)),
			with(prom(0, 1, a)), with(prom(0, 1, a), a, a), with(prom(1, 1, a)), with(fake(0, 1, a)), with(fake(0, 1, a), a, a),
			with(pair(a, a)), with(pair(a, a), a), with(pair(a, a), a, a, a),
			{Kind: api.KindName, To: 1}, {Kind: api.KindName, Num: 1}, {Kind: api.KindName, Text: "a"},
			{Kind: api.KindNum, From: 1}, {Kind: api.KindNum, To: 1}, {Kind: api.KindNum, Text: strings.Repeat("x", 65)},
			{Kind: api.KindData, From: -1}, {Kind: api.KindData, To: 1}, {Kind: api.KindData, Num: 1, Text: strings.Repeat("x", 65)},
			{Kind: api.KindKey, To: 1, From: 16}, {Kind: api.KindKey, Num: 1}, {Kind: api.KindKey, Text: "a"},
			{Kind: api.KindHash, From: 1, Kids: []api.Tree{a}}, {Kind: api.KindHash, To: 1, Kids: []api.Tree{a}}, {Kind: api.KindHash, Num: 1, Kids: []api.Tree{a}}, {Kind: api.KindHash, Text: "a", Kids: []api.Tree{a}},
			{Kind: api.KindPair, From: 1, Kids: []api.Tree{a, a}}, {Kind: api.KindPair, Num: 1, Kids: []api.Tree{a, a}},
			{Kind: api.KindSign, To: 1, Kids: []api.Tree{a}}, {Kind: api.KindSign, Num: 1, Kids: []api.Tree{a}}, {Kind: api.KindSign, From: -1, Text: "a", Kids: []api.Tree{a}},
			{Kind: api.KindProm, To: 1, Num: 1, Kids: []api.Tree{a}}, {Kind: api.KindFake, To: 1, Text: "a", Kids: []api.Tree{a}},
		},
		api.ErrName: {
			name(-1), name(16), key(-1), key(math.MaxInt), sign(16, a), sign(math.MinInt, a),
			prom(0, 0, a), prom(-1, 0, a), prom(0, 16, a), prom(16, 16, a), fake(3, 3, a), fake(16, 0, a), fake(0, -1, a),
		},
		api.ErrLong: {data(strings.Repeat("x", 65)), data(strings.Repeat("x", 1<<20))},
	}
}

// P5.5: the first error of a walk in which a node stands ahead of its kids, and these from the front; and nothing is added.
func TestOfRefuses(t *testing.T) {
	p := term.New()
	kept := plain{data("a")}
	of(t, p, data("a"))
	no := func(x api.Tree, want api.Errno) {
		t.Helper()
		holds(t, spell(x), 0, want)(p.Of(x))
		if p.Len() != 1 {
			t.Fatalf("%s: %d terms", spell(x), p.Len())
		}
	}
	lots := wrongTrees()
	for want, l := range lots {
		for _, x := range l {
			no(x, want)
			no(sign(0, x), want)
			no(pair(name(0), pair(num(1), x)), want)
			no(pair(x, name(0)), want)
			for other, m := range lots {
				no(pair(x, m[0]), want)
				no(pair(hash(x), m[0]), want)
				no(prom(4, 4, x), api.ErrName)
				no(pair(sign(5, m[0]), x), other)
			}
		}
	}
	tells(t, p, kept)
	for _, x := range []api.Tree{name(0), num(1), pair(num(1), name(0))} {
		kept.lay(x)
		of(t, p, x)
	}
	tells(t, p, kept)
}

// P5.5: the node number 4096 and one inside 64 others are too many, whatever they are; what stands ahead of them is told ahead of that.
func TestOfLimits(t *testing.T) {
	none, long := api.Tree{}, data(strings.Repeat("x", 65))
	for _, x := range []struct {
		what string
		x    api.Tree
		want api.Errno
	}{
		{"4095 nodes", broad(4095), api.OK},
		{"4096 nodes", hash(broad(4095)), api.OK},
		{"4096 nodes, the pair last", pair(hash(broad(2047)), broad(2047)), api.OK},
		{"4097 nodes", broad(4097), api.ErrLarge},
		{"4097 nodes in another shape", sign(0, hash(broad(4095))), api.ErrLarge},
		{"the last of 4096 is none", pair(hash(broad(4093)), none), api.ErrTree},
		{"the last of 4097 is none", pair(broad(4095), none), api.ErrLarge},
		{"the last of 4097 is long", pair(broad(4095), long), api.ErrLarge},
		{"the first of 4097 is long", pair(long, broad(4095)), api.ErrLong},
		{"the first of 4097 is no name", sign(-1, hash(broad(4095))), api.ErrName},
		{"depth 64", tower(63, name(0)), api.OK},
		{"depth 65", tower(64, name(0)), api.ErrLarge},
		{"depth 64 and no name", tower(63, name(-1)), api.ErrName},
		{"depth 65 and no name", tower(64, name(-1)), api.ErrLarge},
		{"depth 65 of none", tower(64, none), api.ErrLarge},
		{"depth 65 in a wrong one", sign(-1, tower(64, none)), api.ErrName},
		{"depth 65 behind a wrong one", pair(long, tower(64, none)), api.ErrLong},
		{"depth 65 ahead of a wrong one", pair(tower(64, none), long), api.ErrLarge},
		{"depth 64 behind another", pair(tower(62, name(0)), tower(62, name(1))), api.OK},
		{"depth 1000", tower(1000, name(0)), api.ErrLarge},
	} {
		p := term.New()
		u, why := p.Of(x.x)
		if why != x.want || (u == 0) != (why != api.OK) || why != api.OK && p.Len() != 0 {
			t.Errorf("%s: %d, error %d instead of %d, %d terms", x.what, u, why, x.want, p.Len())
		}
		if why == api.OK && (p.Size(u) != sizeOf(x.x) || p.Depth(u) != depthOf(x.x)) {
			t.Errorf("%s: size %d, depth %d", x.what, p.Size(u), p.Depth(u))
		}
	}
}

// P5.5, rule 1: a tree that stands in itself is too large, or too deep.
func TestOfEndless(t *testing.T) {
	p := term.New()
	deep := hash(name(0))
	deep.Kids[0] = deep
	broad := pair(name(0), name(0))
	broad.Kids[0], broad.Kids[1] = broad, broad
	flat := pair(name(0), name(0))
	flat.Kids[1] = flat
	for _, x := range []api.Tree{deep, broad, flat, sign(0, deep)} {
		if u, why := p.Of(x); u != 0 || why != api.ErrLarge || p.Len() != 0 {
			t.Errorf("%d, error %d, %d terms", u, why, p.Len())
		}
	}
}

// P5.5: ErrMany, if the pool has too little room for what is new, and then nothing was added; all other errors stand ahead of it.
func TestOfFull(t *testing.T) {
	x := pair(sign(0, data("a")), prom(1, 0, pair(num(0), data("a")))) // five that are new
	for room := range 7 {
		p := filled(t, room)
		long := p.Len()
		u, why := p.Of(x)
		if room >= 5 {
			if int(u) != long+5 || why != api.OK || p.Len() != long+5 {
				t.Errorf("room %d: %d, error %d, %d terms", room, u, why, p.Len())
			}
			continue
		}
		if u != 0 || why != api.ErrMany || p.Len() != long {
			t.Errorf("room %d: %d, error %d, %d terms", room, u, why, p.Len())
		}
		if _, there := p.Has(api.Node{Kind: api.KindData, Text: "a"}); there {
			t.Errorf("room %d: a part was left", room)
		}
		noTerm(t, p, api.Term(long+1))
		holds(t, "a wrong one", 0, api.ErrName)(p.Of(pair(x, name(-1))))
		holds(t, "one that is there", 1, api.OK)(p.Of(num(0)))
		if room > 0 {
			holds(t, "the next", api.Term(long+1), api.OK)(p.Of(data("b")))
		}
	}
}

// P5.5: the tree is in new memory, also where a term stands in it twice.
func TestTreeInNewMemory(t *testing.T) {
	p := term.New()
	inner := pair(data("a"), hash(data("b")))
	u := of(t, p, pair(inner, inner))
	want := spell(p.Tree(u))
	x, y := p.Tree(u), p.Tree(u)
	x.Kids[0].Kids[1].Kids[0].Text = "c"
	x.Kids[0].Kids[0] = name(9)
	if spell(x.Kids[1]) != spell(inner) {
		t.Error("two subtrees share memory")
	}
	for i := range x.Kids[:cap(x.Kids)] {
		x.Kids[:cap(x.Kids)][i] = name(8)
	}
	if spell(y) != want || spell(p.Tree(u)) != want {
		t.Error("a tree shares memory with another, or with the pool")
	}
	z := pair(data("a"), data("b"))
	v := of(t, p, z)
	z.Kids[0].Text, z.Kids[1] = "c", name(1)
	if spell(p.Tree(v)) != spell(pair(data("a"), data("b"))) {
		t.Error("a tree that was handed in is kept")
	}
}
