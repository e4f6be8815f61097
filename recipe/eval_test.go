package recipe_test

import (
	"slices"
	"strings"
	"testing"

	"escrow/api"
	"escrow/deduce"
	"escrow/recipe"
	"escrow/term"
)

// known is what most of these tests are given; the operations ahead in base make the same, number by number.
const known = `s0((#1 n2)), k0, p1>2("x"), f2>1(k3), h(k4), (k5 #9), k15, n7, #1, ""`

func base() []api.Op {
	var l []api.Op
	for i := range 10 {
		l = append(l, api.Op{Code: api.OpKnown, A: i})
	}
	return l
}

// right are operations behind base, and what they make.
func right() map[api.Op]string {
	x64 := strings.Repeat("x", 64)
	return map[api.Op]string{
		{Code: api.OpKnown}:                     "s0((#1 n2))",
		{Code: api.OpKnown, A: 3}:               "f2>1(k3)",
		{Code: api.OpKnown, A: 9}:               `""`,
		{Code: api.OpName}:                      "n0",
		{Code: api.OpName, A: 15}:               "n15",
		{Code: api.OpNum}:                       "#0",
		{Code: api.OpNum, Num: 1<<64 - 1}:       "#18446744073709551615",
		{Code: api.OpNum, Num: 1 << 32}:         "#4294967296",
		{Code: api.OpData}:                      `""`,
		{Code: api.OpData, Text: "ab"}:          `"ab"`,
		{Code: api.OpData, Text: x64}:           `"` + x64 + `"`,
		{Code: api.OpPair}:                      "(s0((#1 n2)) s0((#1 n2)))",
		{Code: api.OpPair, A: 8, B: 7}:          "(#1 n7)",
		{Code: api.OpPair, A: 7, B: 9}:          `(n7 "")`,
		{Code: api.OpHash}:                      "h(s0((#1 n2)))",
		{Code: api.OpHash, A: 9}:                `h("")`,
		{Code: api.OpHash, A: 4}:                "h(h(k4))",
		{Code: api.OpFirst, A: 5}:               "k5",
		{Code: api.OpSecond, A: 5}:              "#9",
		{Code: api.OpShow}:                      "(#1 n2)",
		{Code: api.OpShow, A: 2}:                `"x"`,
		{Code: api.OpShow, A: 3}:                "k3",
		{Code: api.OpSign, B: 1}:                "s0(s0((#1 n2)))",
		{Code: api.OpSign, A: 8, B: 6}:          "s15(#1)",
		{Code: api.OpSign, A: 6, B: 6}:          "s15(k15)",
		{Code: api.OpProm, A: 8, B: 1, Num: 1}:  "p0>1(#1)",
		{Code: api.OpProm, A: 7, B: 6}:          "p15>0(n7)",
		{Code: api.OpProm, A: 1, B: 1, Num: 15}: "p0>15(k0)",
		{Code: api.OpFake, A: 8, B: 1, Num: 1}:  "f1>0(#1)",
		{Code: api.OpFake, A: 7, B: 6}:          "f0>15(n7)",
		{Code: api.OpFake, A: 1, B: 1, Num: 15}: "f15>0(k0)",
	}
}

// P9.1: what each code makes.
func TestEvalMakes(t *testing.T) {
	p, k := told(t, known)
	for o, text := range right() {
		makes(t, p, k, append(base(), o), text)
		holds(t, p, k, append(base(), o))
	}
}

// used are the fields that a code names: A, B, Num, Text.
func used(code int) (a, b, num, text bool) {
	a = code != api.OpNum && code != api.OpData
	b = code == api.OpPair || code >= api.OpSign
	num = code == api.OpNum || code == api.OpProm || code == api.OpFake
	return a, b, num, code == api.OpData
}

// P9.1: fields that a code does not name have no part, whatever they are.
func TestEvalOtherFields(t *testing.T) {
	p, k := told(t, known)
	for o, want := range right() {
		a, b, num, text := used(o.Code)
		for i, wrong := range strange(11) {
			if !a {
				o.A = wrong
			}
			if !b {
				o.B = wrong
			}
			if !num {
				o.Num = noNames()[i]
			}
			if !text {
				o.Text = strings.Repeat("y", 65)
			}
			makes(t, p, k, append(base(), o), want)
		}
	}
}

// P9.1: a number of an operation is one ahead; not its own, none behind it, none below 0.
func TestEvalNotAhead(t *testing.T) {
	p, k := told(t, known)
	for _, behind := range [][]api.Op{nil, {{Code: api.OpKnown, A: 1}, {Code: api.OpKnown, A: 5}, {Code: api.OpKnown, A: 2}}} {
		for o := range right() {
			a, b, _, _ := used(o.Code)
			if o.Code == api.OpKnown || o.Code == api.OpName {
				continue
			}
			for _, wrong := range strange(10) {
				if a {
					x := o
					x.A = wrong
					refuses(t, p, k, slices.Concat(base(), []api.Op{x}, behind), api.ErrOp, 10)
				}
				if b {
					x := o
					x.B = wrong
					refuses(t, p, k, slices.Concat(base(), []api.Op{x}, behind), api.ErrOp, 10)
				}
			}
		}
	}
}

// P9.1: what is taken out of, and the key, are of the kind that is needed: each kind in the place of each.
func TestEvalWrongKind(t *testing.T) {
	p, k := told(t, `n0, #1, "a", (#1 n2), h(k0), k0, s0(#1), p0>1(#1), f0>1(#1), s0((#1 n2)), (k0 k0), h((#1 #1))`)
	kinds := []int{1, 2, 3, 4, 5, 6, 7, 8, 9, 7, 4, 5}
	var ahead []api.Op
	for i := range kinds {
		ahead = append(ahead, api.Op{Code: api.OpKnown, A: i})
	}
	for i, kind := range kinds {
		for code, takes := range map[int][]int{api.OpFirst: {4}, api.OpSecond: {4}, api.OpShow: {7, 8, 9}} {
			l := append(slices.Clone(ahead), api.Op{Code: code, A: i, B: 5})
			if !slices.Contains(takes, kind) {
				refuses(t, p, k, l, api.ErrOp, len(ahead))
			}
			holds(t, p, k, l)
		}
		for _, code := range []int{api.OpSign, api.OpProm, api.OpFake} {
			l := append(slices.Clone(ahead), api.Op{Code: code, A: 5, B: i, Num: 1})
			if kind != api.KindKey {
				refuses(t, p, k, l, api.ErrOp, len(ahead))
			}
			holds(t, p, k, l)
			holds(t, p, k, append(slices.Clone(ahead), api.Op{Code: code, A: i, B: 5, Num: 1}))
		}
		holds(t, p, k, append(slices.Clone(ahead), api.Op{Code: api.OpHash, A: i}))
		holds(t, p, k, append(slices.Clone(ahead), api.Op{Code: api.OpPair, A: i, B: 3}, api.Op{Code: api.OpPair, A: 3, B: i}))
	}
}

// P9.1: a Code that is none; a known term that is none.
func TestEvalNone(t *testing.T) {
	p, k := told(t, known)
	for _, code := range strange(12) {
		refuses(t, p, k, []api.Op{{Code: code}}, api.ErrOp, 0)
		refuses(t, p, k, append(base(), api.Op{Code: code, B: 1}, api.Op{Code: api.OpName}), api.ErrOp, 10)
	}
	for _, a := range strange(10) {
		refuses(t, p, k, []api.Op{{Code: api.OpKnown, A: a}}, api.ErrOp, 0)
		refuses(t, p, k, append(base(), base()[0], api.Op{Code: api.OpKnown, A: a}), api.ErrOp, 11)
	}
	p, k = told(t, "")
	refuses(t, p, k, []api.Op{{Code: api.OpKnown}}, api.ErrOp, 0)
	makes(t, p, k, []api.Op{{Code: api.OpName}}, "n0")
}

// P9.1: known is what was given, in its order, each once; not what is seen in it, nor what was made.
func TestEvalKnown(t *testing.T) {
	p := term.New()
	k := knowing(t, p, list(t, p, "h(n1), s0((k1 #2)), h(n1), k1, s0((k1 #2)), #7"))
	for i, text := range []string{"h(n1)", "s0((k1 #2))", "k1", "#7"} {
		makes(t, p, k, []api.Op{{Code: api.OpKnown, A: i}}, text)
	}
	refuses(t, p, k, []api.Op{{Code: api.OpKnown, A: 4}}, api.ErrOp, 0)
	refuses(t, p, k, []api.Op{{Code: api.OpName, A: 3}, {Code: api.OpKnown, A: 4}}, api.ErrOp, 1)
	k.Add(of(t, p, "n9"))
	makes(t, p, k, []api.Op{{Code: api.OpKnown, A: 4}}, "n9")
	if l := k.Given(); len(l) != 5 {
		t.Errorf("given %s", shown(p, l))
	}
}

// P9.1: term's errors of names, alike ones in a promise or a fake among them.
func TestEvalNames(t *testing.T) {
	p, k := told(t, known)
	for _, a := range strange(16) {
		refuses(t, p, k, append(base(), api.Op{Code: api.OpName, A: a}), api.ErrName, 10)
	}
	for _, code := range []int{api.OpProm, api.OpFake} {
		for _, n := range append(noNames(), 0) {
			refuses(t, p, k, append(base(), api.Op{Code: code, A: 8, B: 1, Num: n}), api.ErrName, 10)
		}
		for _, n := range append(noNames(), 15) {
			refuses(t, p, k, append(base(), api.Op{Code: code, A: 8, B: 6, Num: n}), api.ErrName, 10)
		}
		for n := range uint64(20) {
			for _, key := range []int{1, 6} {
				holds(t, p, k, append(base(), api.Op{Code: code, A: 8, B: key, Num: n}))
			}
		}
	}
}

// P9.1: term's errors of data that are too long, of terms that are too deep or too large.
func TestEvalLimits(t *testing.T) {
	p, k := told(t, "k0, k1")
	for _, long := range []int{65, 66, 1000, 100000} {
		refuses(t, p, k, []api.Op{{Code: api.OpNum}, {Code: api.OpData, Text: strings.Repeat("x", long)}}, api.ErrLong, 1)
	}
	for _, o := range []api.Op{{Code: api.OpHash}, {Code: api.OpPair}, {Code: api.OpSign}, {Code: api.OpProm, Num: 1}, {Code: api.OpFake, Num: 1}} {
		l := []api.Op{{Code: api.OpKnown}}
		for range api.MaxDepth - 1 {
			l = append(l, o)
			o.A++
		}
		holds(t, p, k, l)
		if u, why, _ := recipe.Eval(p, k, l); p.Depth(u) != api.MaxDepth || why != api.OK {
			t.Errorf("code %d: depth %d, error %d", o.Code, p.Depth(u), why)
		}
		refuses(t, p, k, append(l, o, l[0]), api.ErrLarge, 64)
	}
	l := []api.Op{{Code: api.OpName}}
	for i := range 11 {
		l = append(l, api.Op{Code: api.OpPair, A: i, B: i})
	}
	if u, why, _ := recipe.Eval(p, k, l); p.Size(u) != 4095 || why != api.OK {
		t.Errorf("size %d, error %d", p.Size(u), why)
	}
	holds(t, p, k, append(l, api.Op{Code: api.OpHash, A: 11}))
	refuses(t, p, k, append(l, api.Op{Code: api.OpPair, A: 11, B: 0}), api.ErrLarge, 12)
	refuses(t, p, k, append(l, api.Op{Code: api.OpPair, A: 0, B: 11}), api.ErrLarge, 12)
}

// P9.1: of one operation ErrOp comes ahead of term's error; of several operations the first one's error.
func TestEvalFirstError(t *testing.T) {
	p, k := told(t, "k0, #1")
	deep := []api.Op{{Code: api.OpKnown}, {Code: api.OpKnown, A: 1}}
	for i := range api.MaxDepth - 1 {
		deep = append(deep, api.Op{Code: api.OpHash, A: max(i+1, 1)})
	}
	last := len(deep) - 1
	refuses(t, p, k, append(deep, api.Op{Code: api.OpSign, A: last}), api.ErrLarge, last+1)
	refuses(t, p, k, append(deep, api.Op{Code: api.OpSign, A: last, B: 1}), api.ErrOp, last+1)
	refuses(t, p, k, append(deep, api.Op{Code: api.OpPair, A: last, B: last + 1}), api.ErrOp, last+1)
	refuses(t, p, k, append(deep, api.Op{Code: api.OpPair, A: -1, B: last}), api.ErrOp, last+1)
	refuses(t, p, k, append(deep, api.Op{Code: api.OpProm, A: last, Num: 16}), api.ErrName, last+1)
	for _, code := range []int{api.OpProm, api.OpFake} {
		refuses(t, p, k, append(deep, api.Op{Code: code, A: last, B: 1, Num: 16}), api.ErrOp, last+1)
		refuses(t, p, k, append(deep, api.Op{Code: code, A: last + 1, Num: 16}), api.ErrOp, last+1)
	}
	wrong := []api.Op{{Code: api.OpName, A: 16}, {Code: api.OpKnown, A: 2}, {Code: 12}, {Code: api.OpData, Text: strings.Repeat("x", 65)}}
	errors := []api.Errno{api.ErrName, api.ErrOp, api.ErrOp, api.ErrLong}
	for i, o := range wrong {
		for _, other := range wrong {
			refuses(t, p, k, []api.Op{o, other}, errors[i], 0)
			refuses(t, p, k, []api.Op{{Code: api.OpNum}, {Code: api.OpHash}, o, {Code: api.OpNum}, other}, errors[i], 2)
		}
	}
}

// P9.1, P9.2: no pool, nobody who knows; too many operations; none. The first of these counts.
func TestEvalRefused(t *testing.T) {
	p, k := told(t, known)
	long := p.Len()
	lists := map[int][]api.Op{0: nil, 1: {}, 2: {{Code: api.OpNum, Num: 77}}, 3: make([]api.Op, api.MaxOps+1), 4: {{Code: -1}}, 5: make([]api.Op, 100000)}
	for _, l := range lists {
		refuses(t, nil, k, l, api.ErrArg, 0)
		refuses(t, p, nil, l, api.ErrArg, 0)
		refuses(t, nil, nil, l, api.ErrArg, 0)
	}
	refuses(t, p, k, lists[0], api.ErrShort, 0)
	refuses(t, p, k, lists[1], api.ErrShort, 0)
	refuses(t, p, k, lists[3], api.ErrMany, 0)
	refuses(t, p, k, lists[5], api.ErrMany, 0)
	lists[3][0] = api.Op{Code: api.OpNum, Num: 78}
	lists[3][1] = api.Op{Code: -1}
	refuses(t, p, k, lists[3], api.ErrMany, 0)
	if p.Len() != long {
		t.Errorf("%d terms instead of %d", p.Len(), long)
	}
}

// P9.1, P9.2: as many operations as may be.
func TestEvalMost(t *testing.T) {
	p, k := told(t, known)
	var l []api.Op
	for i := range api.MaxOps - 1 {
		l = append(l, api.Op{Code: api.OpNum, Num: uint64(i + 100)})
	}
	makes(t, p, k, append(l, api.Op{Code: api.OpHash, A: 254}), "h(#354)")
	makes(t, p, k, append(l, api.Op{Code: api.OpPair, A: 0, B: 253}), "(#100 #353)")
	refuses(t, p, k, append(l, api.Op{Code: api.OpHash, A: 255}), api.ErrOp, 255)
	refuses(t, p, k, append(l, api.Op{Code: api.OpHash, A: 254}, api.Op{Code: api.OpNum}), api.ErrMany, 0)
	if got := recipe.Trace(p, k, append(l, api.Op{Code: api.OpHash, A: 9})); len(got) != api.MaxOps || shown(p, got[255:]) != "h(#109)" {
		t.Errorf("%d terms", len(got))
	}
}

// P9.1: what was made ahead of an operation that cannot be done stays in the pool, and nothing else; nothing of it is given.
func TestEvalPool(t *testing.T) {
	p, k := told(t, "k0")
	l := []api.Op{{Code: api.OpKnown}, {Code: api.OpNum, Num: 5}, {Code: api.OpNum, Num: 5}, {Code: api.OpHash, A: 1}, {Code: api.OpPair, A: 1, B: 9}, {Code: api.OpName}}
	refuses(t, p, k, l, api.ErrOp, 4)
	if p.Len() != 3 || speakAll(p) != "k0, #5, h(#5)" {
		t.Errorf("the pool: %s", speakAll(p))
	}
	makes(t, p, k, l[:4], "h(#5)")
	if p.Len() != 3 || len(k.Given()) != 1 || k.Sees(2) || k.Sees(3) {
		t.Errorf("the pool: %s, given %s", speakAll(p), shown(p, k.Given()))
	}
	makes(t, p, k, []api.Op{{Code: api.OpData, Text: "a"}, {Code: api.OpKnown}, {Code: api.OpFake, A: 0, B: 1, Num: 4}}, `f4>0("a")`)
	if speakAll(p) != `k0, #5, h(#5), "a", f4>0("a")` {
		t.Errorf("the pool: %s", speakAll(p))
	}
}

func speakAll(p *term.Pool) string {
	var l []api.Term
	for i := range p.Len() {
		l = append(l, api.Term(i+1))
	}
	return shown(p, l)
}

// P9.1: a pool without room: what is there is made, nothing else; ErrOp comes ahead.
func TestEvalFullPool(t *testing.T) {
	p, k := told(t, "k0, s0(#0)")
	for i := uint64(0); p.Len() < api.MaxTerms-1; i++ {
		p.Num(i)
	}
	many := []api.Op{{Code: api.OpKnown}, {Code: api.OpNum, Num: 9}, {Code: api.OpHash, A: 1}, {Code: api.OpHash, A: 2}, {Code: api.OpNum}}
	refuses(t, p, k, many, api.ErrMany, 3)
	if p.Len() != api.MaxTerms {
		t.Errorf("%d terms", p.Len())
	}
	refuses(t, p, k, many, api.ErrMany, 3)
	makes(t, p, k, many[:3], "h(#9)")
	makes(t, p, k, []api.Op{{Code: api.OpKnown, A: 1}, {Code: api.OpShow}, {Code: api.OpKnown}, {Code: api.OpSign, A: 1, B: 2}}, "s0(#0)")
	for o, why := range map[api.Op]api.Errno{
		{Code: api.OpName, A: 1}:               api.ErrMany,
		{Code: api.OpData}:                     api.ErrMany,
		{Code: api.OpPair}:                     api.ErrMany,
		{Code: api.OpProm, Num: 1}:             api.ErrMany,
		{Code: api.OpFake, Num: 1}:             api.ErrMany,
		{Code: api.OpSign, A: 0}:               api.ErrMany,
		{Code: api.OpName, A: 16}:              api.ErrName,
		{Code: api.OpProm, Num: 0}:             api.ErrName,
		{Code: api.OpPair, B: 1}:               api.ErrOp,
		{Code: api.OpFake, B: 1, Num: 1 << 40}: api.ErrOp,
	} {
		refuses(t, p, k, []api.Op{{Code: api.OpKnown}, o}, why, 1)
	}
}

// P9.1, P9.2: the chapter's examples.
func TestExamples(t *testing.T) {
	p, k := told(t, "s0((#1 n2)), k0")
	l := []api.Op{{Code: api.OpKnown}, {Code: api.OpShow}, {Code: api.OpFirst, A: 1}}
	makes(t, p, k, l, "#1")
	if got := shown(p, recipe.Trace(p, k, l)); got != "s0((#1 n2)), (#1 n2), #1" {
		t.Errorf("Trace: %s", got)
	}
	makes(t, p, k, append(l, api.Op{Code: api.OpKnown, A: 1}, api.Op{Code: api.OpSign, A: 2, B: 3}), "s0(#1)")
	l[1] = api.Op{Code: api.OpFirst}
	refuses(t, p, k, l, api.ErrOp, 1)
	refuses(t, p, k, []api.Op{{Code: api.OpKnown, A: 2}}, api.ErrOp, 0)
	refuses(t, p, k, []api.Op{{Code: api.OpName, A: 16}}, api.ErrName, 0)
	refuses(t, p, k, nil, api.ErrShort, 0)
}

// P9.1, P9.2: operations that look like chance, held against the judge.
func TestEvalAny(t *testing.T) {
	d := dice(1)
	errors, done := map[api.Errno]int{}, map[int]int{}
	for range 4000 {
		p, k := anyKnow(t, &d)
		ops := anyOps(&d, trees(p, k))
		holds(t, p, k, ops)
		_, why, _ := recipe.Eval(p, k, ops)
		errors[why]++
		for _, o := range ops[:len(recipe.Trace(p, k, ops))] {
			done[o.Code]++
		}
	}
	for _, why := range []api.Errno{api.OK, api.ErrOp, api.ErrName, api.ErrLong} {
		if errors[why] < 20 {
			t.Errorf("the error %d came %d times", why, errors[why])
		}
	}
	for code := range 12 {
		if done[code] < 100 {
			t.Errorf("the code %d was done %d times", code, done[code])
		}
	}
}

// P9.1, P9.2: all lists of two operations of few fields, behind a key and a pair.
func TestEvalAllPairs(t *testing.T) {
	p, k := told(t, "k0, (k1 s1(#1)), #1")
	var all []api.Op
	for code := range 13 {
		for a := range 4 {
			for b := range 3 {
				for num := range uint64(2) {
					all = append(all, api.Op{Code: code, A: a, B: b, Num: num, Text: "a"})
				}
			}
		}
	}
	for _, one := range all {
		for _, other := range all {
			holds(t, p, k, []api.Op{{Code: api.OpKnown, A: 1}, one, other})
		}
	}
}

// Rule 3, P9.1, P9.2: what is handed in stays as it is, and what is answered is in memory of its own.
func TestTraceApart(t *testing.T) {
	p, k := told(t, known)
	l := append(base(), api.Op{Code: api.OpHash, A: 9})
	want := recipe.Trace(p, k, l)
	for range 2 {
		got := recipe.Trace(p, k, l)
		if !slices.Equal(got, want) {
			t.Fatalf("%v instead of %v", got, want)
		}
		got = got[:cap(got)]
		for i := range got {
			got[i] = 1
		}
	}
	if got := shown(p, k.Given()); got != known {
		t.Errorf("given %s", got)
	}
	for _, ops := range [][]api.Op{l, {{Code: api.OpHash}}, append(base(), api.Op{Code: 12}, base()[0])} {
		untouched(t, ops, func(l []api.Op) { recipe.Eval(p, k, l) })
		untouched(t, ops, func(l []api.Op) { recipe.Trace(p, k, l) })
	}
}

// Rule 4: what is made hangs on what was given, not on what was asked ahead.
func TestEvalAgain(t *testing.T) {
	d := dice(4)
	p := few(t)
	k := deduce.New(p)
	for u := api.Term(1); u <= 12; u++ {
		k.Add(u)
	}
	for range 500 {
		ops := anyOps(&d, trees(p, k))
		u, why, at := recipe.Eval(p, k, ops)
		v, e, i := recipe.Eval(p, k.Copy(), slices.Clone(ops))
		if u != v || why != e || at != i {
			t.Fatalf("%v: %d, %d, %d and %d, %d, %d", ops, u, why, at, v, e, i)
		}
		makesOf(t, p, k, ops)
	}
}

// makesOf fails if Trace of a list is not, place by place, Eval of its beginnings.
func makesOf(t *testing.T, p *term.Pool, k *deduce.Know, ops []api.Op) {
	t.Helper()
	got := recipe.Trace(p, k, ops)
	for i, u := range got {
		if v, why, _ := recipe.Eval(p, k, ops[:i+1]); v != u || why != api.OK {
			t.Fatalf("%v: %d in the place %d, and %d, error %d", ops, u, i, v, why)
		}
	}
	if _, why, at := recipe.Eval(p, k, ops); why != api.OK && at != len(got) {
		t.Fatalf("%v: %d terms, error %d at %d", ops, len(got), why, at)
	}
}
