package recipe_test

import (
	"math"
	"slices"
	"testing"

	"escrow/api"
	"escrow/recipe"
)

// trims fails if Trim of operations tells others than these.
func trims(t *testing.T, l, want []api.Op) {
	t.Helper()
	if got := recipe.Trim(l); !slices.Equal(got, want) {
		t.Errorf("%v: %v instead of %v", l, got, want)
	}
}

// P9.4: by hand: what each code names, and what it does not.
func TestTrim(t *testing.T) {
	trims(t, nil, nil)
	trims(t, []api.Op{}, nil)
	num, name, data := api.Op{Code: api.OpNum, Num: 5}, api.Op{Code: api.OpName, A: 1}, api.Op{Code: api.OpData, Text: "x"}
	trims(t, []api.Op{num}, []api.Op{num})
	trims(t, []api.Op{num, name, {Code: api.OpHash, A: 1}}, []api.Op{name, {Code: api.OpHash, A: 0}})
	trims(t, []api.Op{num, name, {Code: api.OpHash, A: 0}}, []api.Op{num, {Code: api.OpHash, A: 0}})
	trims(t, []api.Op{num, name, data}, []api.Op{data})
	for _, code := range []int{api.OpHash, api.OpFirst, api.OpSecond, api.OpShow} {
		for b := -2; b < 5; b++ { // B is not named: it stays, and has no part
			o := api.Op{Code: code, A: 1, B: b, Num: 1, Text: "t"}
			trims(t, []api.Op{num, name, data, o}, []api.Op{name, {Code: code, A: 0, B: b, Num: 1, Text: "t"}})
		}
	}
	for _, code := range []int{api.OpPair, api.OpSign, api.OpProm, api.OpFake} {
		trims(t, []api.Op{num, name, data, {Code: code, A: 1, B: 2, Num: 1, Text: "t"}}, []api.Op{name, data, {Code: code, A: 0, B: 1, Num: 1, Text: "t"}})
		trims(t, []api.Op{num, name, data, {Code: code, A: 2, B: 0}}, []api.Op{num, data, {Code: code, A: 1, B: 0}})
		trims(t, []api.Op{num, name, data, {Code: code, A: 2, B: 2}}, []api.Op{data, {Code: code}})
		trims(t, []api.Op{num, name, data, {Code: code, A: 2, B: 3}}, []api.Op{data, {Code: code, A: 0, B: 3}})
		trims(t, []api.Op{num, name, data, {Code: code, A: -1, B: 2}}, []api.Op{data, {Code: code, A: -1, B: 0}})
	}
	for _, code := range append(strange(12), api.OpKnown, api.OpName, api.OpNum, api.OpData) { // they name no operations
		for a := -1; a < 4; a++ {
			o := api.Op{Code: code, A: a, B: 1, Num: 2, Text: "t"}
			trims(t, []api.Op{num, data, o}, []api.Op{o})
			trims(t, []api.Op{num, o, {Code: api.OpHash, A: 1}}, []api.Op{o, {Code: api.OpHash}})
		}
	}
}

// P9.4: a number that is none ahead stays as it is, and has no part: also one that another operation has, or gets.
func TestTrimNotAhead(t *testing.T) {
	num := api.Op{Code: api.OpNum}
	for _, wrong := range strange(2) {
		trims(t, []api.Op{num, num, {Code: api.OpHash, A: wrong}}, []api.Op{{Code: api.OpHash, A: wrong}})
		trims(t, []api.Op{num, num, {Code: api.OpPair, A: wrong, B: 1}}, []api.Op{num, {Code: api.OpPair, A: wrong, B: 0}})
		trims(t, []api.Op{num, num, {Code: api.OpPair, A: 1, B: wrong}}, []api.Op{num, {Code: api.OpPair, A: 0, B: wrong}})
		trims(t, []api.Op{num, num, {Code: api.OpHash, A: wrong}, {Code: api.OpNum, Num: 3}, {Code: api.OpHash, A: 2}}, []api.Op{{Code: api.OpHash, A: wrong}, {Code: api.OpHash}})
	}
	trims(t, []api.Op{{Code: api.OpHash}}, []api.Op{{Code: api.OpHash}})
	trims(t, []api.Op{{Code: api.OpHash, A: 1}, {Code: api.OpNum}, {Code: api.OpPair, A: 0, B: 5}}, []api.Op{{Code: api.OpHash, A: 1}, {Code: api.OpPair, A: 0, B: 5}})
}

// P9.4: one that has a part by one that has a part, however far; what only an operation without a part names has none.
func TestTrimFar(t *testing.T) {
	trims(t, []api.Op{
		{Code: api.OpNum}, {Code: api.OpNum, Num: 1}, {Code: api.OpHash}, {Code: api.OpHash, A: 1}, {Code: api.OpPair, A: 2, B: 1}, {Code: api.OpHash, A: 3}, {Code: api.OpHash, A: 4},
	}, []api.Op{
		{Code: api.OpNum}, {Code: api.OpNum, Num: 1}, {Code: api.OpHash}, {Code: api.OpPair, A: 2, B: 1}, {Code: api.OpHash, A: 3},
	})
	for _, long := range []int{3, api.MaxOps, api.MaxOps + 1, 100001} { // more than may be done are put in order all the same
		var l, want []api.Op
		for i := range long {
			o := api.Op{Code: api.OpHash, A: i - 2, Num: uint64(i)}
			l = append(l, o)
			if i%2 == (long-1)%2 {
				if i >= 2 {
					o.A = len(want) - 1
				}
				want = append(want, o)
			}
		}
		trims(t, l, want)
	}
}

// judgeTrim is what Trim should tell, told another way: from the last one on, each asks for those that it names.
func judgeTrim(l []api.Op) []api.Op {
	parts := map[int]bool{}
	var ask func(i int)
	ask = func(i int) {
		if parts[i] {
			return
		}
		parts[i] = true
		if l[i].Code >= 4 && l[i].Code <= 11 && l[i].A >= 0 && l[i].A < i {
			ask(l[i].A)
		}
		if (l[i].Code == 4 || l[i].Code >= 9 && l[i].Code <= 11) && l[i].B >= 0 && l[i].B < i {
			ask(l[i].B)
		}
	}
	ask(len(l) - 1)
	lower := func(i int) (n int) { // how many of those that have a part are ahead
		for j := range i {
			if parts[j] {
				n++
			}
		}
		return n
	}
	var kept []api.Op
	for i, o := range l {
		if !parts[i] {
			continue
		}
		if o.Code >= 4 && o.Code <= 11 && o.A >= 0 && o.A < i {
			o.A = lower(o.A)
		}
		if (o.Code == 4 || o.Code >= 9 && o.Code <= 11) && o.B >= 0 && o.B < i {
			o.B = lower(o.B)
		}
		kept = append(kept, o)
	}
	return kept
}

// P9.4: operations that look like chance, right or wrong.
func TestTrimAny(t *testing.T) {
	d := dice(5)
	for range 20000 {
		var l []api.Op
		for i := range 1 + d.upTo(14) {
			o := api.Op{Code: d.upTo(14) - 1, A: d.upTo(i+4) - 2, B: d.upTo(i+4) - 2, Num: uint64(i), Text: "abc"[:d.upTo(4)]}
			if d.upTo(40) == 0 {
				o.A = []int{math.MinInt, math.MaxInt}[d.upTo(2)]
			}
			l = append(l, o)
		}
		trims(t, l, judgeTrim(l))
		trims(t, recipe.Trim(l), recipe.Trim(l))
	}
}

// P9.8: Eval of Trim is that of the list, where that is OK; and each that is left has a part.
func TestTrimMakesTheSame(t *testing.T) {
	d := dice(6)
	right := 0
	for range 4000 {
		p, k := anyKnow(t, &d)
		ops := anyOps(&d, trees(p, k))
		u, why, _ := recipe.Eval(p, k, ops)
		if why != api.OK {
			continue
		}
		right++
		l := recipe.Trim(ops)
		if v, why, at := recipe.Eval(p, k, l); v != u || why != api.OK || at != 0 {
			t.Fatalf("given %s: %v and %v: %s and %s, error %d at %d", shown(p, k.Given()), ops, l, shown(p, []api.Term{u}), shown(p, []api.Term{v}), why, at)
		}
		holds(t, p, k, l)
		if len(judgeTrim(l)) != len(l) {
			t.Fatalf("%v: one of %v has no part", ops, l)
		}
	}
	if right < 1000 {
		t.Errorf("just %d lists", right)
	}
}

// P9.8: where Eval is refused, Trim tells of what is left all the same.
func TestTrimOfRefused(t *testing.T) {
	p, k := told(t, known)
	l := []api.Op{{Code: api.OpNum}, {Code: 99}, {Code: api.OpHash}}
	refuses(t, p, k, l, api.ErrOp, 1)
	makes(t, p, k, recipe.Trim(l), "h(#0)")
	l = append(make([]api.Op, 300), api.Op{Code: api.OpName, A: 4}, api.Op{Code: api.OpHash, A: 300})
	refuses(t, p, k, l, api.ErrMany, 0)
	makes(t, p, k, recipe.Trim(l), "h(n4)")
}

// Rule 3: what is handed in stays as it is, and what is answered is in memory of its own.
func TestTrimApart(t *testing.T) {
	l := []api.Op{{Code: api.OpNum}, {Code: api.OpName}, {Code: api.OpName, A: 1}, {Code: api.OpPair, A: 1, B: 2}, {Code: api.OpHash, A: 3}}
	want := []api.Op{{Code: api.OpName}, {Code: api.OpName, A: 1}, {Code: api.OpPair, A: 0, B: 1}, {Code: api.OpHash, A: 2}}
	for _, ops := range [][]api.Op{l, want, l[:1]} {
		untouched(t, ops, func(l []api.Op) {
			got := recipe.Trim(l)
			got = got[:cap(got)]
			for i := range got {
				got[i] = api.Op{Code: -1}
			}
		})
	}
	trims(t, l, want)
	trims(t, want, want)
}
