package deduce_test

import (
	"math"
	"slices"
	"testing"

	"escrow/api"
	"escrow/deduce"
	"escrow/term"
)

// line is a step whose term is a text.
type line struct {
	rule, a, b int
	text       string
}

func steps(t *testing.T, p *term.Pool, l []line) []api.Step {
	t.Helper()
	var out []api.Step
	for _, x := range l {
		out = append(out, api.Step{Rule: x.rule, A: x.a, B: x.b, T: of(t, p, x.text)})
	}
	return out
}

const (
	given  = api.RuleGiven
	first  = api.RuleFirst
	second = api.RuleSecond
	show   = api.RuleShow
	free   = api.RuleFree
	made   = api.RuleMake
)

// checks fails if Check does not tell this of these lines, whose goal is what the last one says.
func checks(t *testing.T, has string, l []line, want api.Errno, place int) {
	t.Helper()
	p := term.New()
	row := steps(t, p, l)
	why, at := deduce.Check(p, list(t, p, has), row, row[len(row)-1].T)
	if why != want || at != place {
		t.Errorf("given %s: %v: error %d at %d instead of error %d at %d", has, l, why, at, want, place)
	}
}

// P8.1: each rule, of each kind to which it leads.
func TestCheckRight(t *testing.T) {
	for _, x := range []struct {
		given string
		l     []line
	}{
		{"k0", []line{{given, 0, 0, "k0"}}},
		{"n1", []line{{given, 0, 0, "n1"}}},
		{"#3, h(k0), k1", []line{{given, 0, 0, "h(k0)"}}},
		{"(k0 k1)", []line{{given, 0, 0, "(k0 k1)"}, {first, 0, 0, "k0"}}},
		{"(k0 k1)", []line{{given, 0, 0, "(k0 k1)"}, {second, 0, 0, "k1"}}},
		{"(k0 k0)", []line{{given, 0, 0, "(k0 k0)"}, {second, 0, 0, "k0"}, {first, 0, 0, "k0"}}},
		{"s0(k1)", []line{{given, 0, 0, "s0(k1)"}, {show, 0, 0, "k1"}}},
		{"p0>1(k2)", []line{{given, 0, 0, "p0>1(k2)"}, {show, 0, 0, "k2"}}},
		{"f0>1(k2)", []line{{given, 0, 0, "f0>1(k2)"}, {show, 0, 0, "k2"}}},
		{"", []line{{free, 0, 0, "n15"}}},
		{"", []line{{free, 0, 0, "#18446744073709551615"}}},
		{"", []line{{free, 0, 0, `""`}}},
		{"", []line{{free, 0, 0, "n1"}, {free, 0, 0, "#2"}, {made, 0, 1, "(n1 #2)"}, {made, 1, 0, "(#2 n1)"}, {made, 1, 1, "(#2 #2)"}}},
		{"", []line{{free, 0, 0, "n1"}, {made, 0, 0, "(n1 n1)"}, {made, 0, 0, "h(n1)"}, {made, 1, 0, "h((n1 n1))"}}},
		{"k3", []line{{free, 0, 0, "n1"}, {given, 0, 0, "k3"}, {made, 0, 1, "s3(n1)"}, {made, 1, 1, "s3(k3)"}}},
		{"k3", []line{{free, 0, 0, "n1"}, {given, 0, 0, "k3"}, {made, 0, 1, "p3>4(n1)"}, {made, 2, 1, "p3>0(p3>4(n1))"}}},
		{"k3", []line{{free, 0, 0, "n1"}, {given, 0, 0, "k3"}, {made, 0, 1, "f4>3(n1)"}, {made, 1, 1, "f0>3(k3)"}}},
		{"k0", []line{{given, 0, 0, "k0"}, {made, 0, 0, "s0(k0)"}}},
		{"k0", []line{{given, 0, 0, "k0"}, {given, 0, 0, "k0"}, {free, 0, 0, "#1"}, {free, 0, 0, "#1"}, {made, 3, 1, "s0(#1)"}}}, // twice does no harm
		{"s0((#1 n2))", []line{{given, 0, 0, "s0((#1 n2))"}, {show, 0, 0, "(#1 n2)"}, {first, 1, 0, "#1"}, {made, 2, 0, "h(#1)"}}},
		{"s0((#1 n2))", []line{{free, 0, 0, "#1"}, {made, 0, 0, "h(#1)"}}},
	} {
		checks(t, x.given, x.l, api.OK, 0)
	}
}

// P8.1: steps that do not follow.
func TestCheckWrong(t *testing.T) {
	n, k3 := line{free, 0, 0, "n1"}, line{given, 0, 0, "k3"}
	for _, x := range []struct {
		given string
		l     []line
		place int
	}{
		{"", []line{{given, 0, 0, "k0"}}, 0},
		{"h(k0), s0(k0), (k0 k0), k1", []line{{given, 0, 0, "k0"}}, 0},
		{"k0", []line{{given, 1, 0, "k0"}}, 0},
		{"k0", []line{{given, 0, 1, "k0"}}, 0},
		{"k0", []line{{given, 0, 0, "k0"}, {given, -1, 0, "k0"}}, 1},
		{"(k0 k1)", []line{{first, 0, 0, "k0"}}, 0},
		{"(k0 k1)", []line{{given, 0, 0, "(k0 k1)"}, {first, 0, 0, "k1"}}, 1},
		{"(k0 k1)", []line{{given, 0, 0, "(k0 k1)"}, {second, 0, 0, "k0"}}, 1},
		{"(k0 k1)", []line{{given, 0, 0, "(k0 k1)"}, {show, 0, 0, "k0"}}, 1},
		{"(k0 k1)", []line{{given, 0, 0, "(k0 k1)"}, {first, 0, 1, "k0"}}, 1},
		{"(k0 k1)", []line{{given, 0, 0, "(k0 k1)"}, {second, 0, -1, "k1"}}, 1},
		{"(k0 k1)", []line{{given, 0, 0, "(k0 k1)"}, {first, 1, 0, "k0"}}, 1},
		{"(k0 k1)", []line{{given, 0, 0, "(k0 k1)"}, {second, -1, 0, "k1"}}, 1},
		{"((k0 k1) k2)", []line{{given, 0, 0, "((k0 k1) k2)"}, {first, 0, 0, "k0"}}, 1},
		{"s0(k1)", []line{{given, 0, 0, "s0(k1)"}, {show, 0, 1, "k1"}}, 1},
		{"s0(k1)", []line{{given, 0, 0, "s0(k1)"}, {show, 2, 0, "k1"}}, 1},
		{"s0(k1)", []line{{given, 0, 0, "s0(k1)"}, {first, 0, 0, "k1"}}, 1},
		{"p0>1(k1)", []line{{given, 0, 0, "p0>1(k1)"}, {second, 0, 0, "k1"}}, 1},
		{"f0>1(k1)", []line{{given, 0, 0, "f0>1(k1)"}, {first, 0, 0, "k1"}}, 1},
		{"h(k0)", []line{{given, 0, 0, "h(k0)"}, {show, 0, 0, "k0"}}, 1},
		{"h(k0)", []line{{given, 0, 0, "h(k0)"}, {first, 0, 0, "k0"}}, 1},
		{"", []line{{free, 0, 0, "k0"}}, 0},
		{"", []line{{free, 0, 0, "(n1 n1)"}}, 0},
		{"", []line{{free, 0, 0, "h(n1)"}}, 0},
		{"", []line{{free, 0, 0, "s0(n1)"}}, 0},
		{"", []line{{free, 0, 0, "p0>1(n1)"}}, 0},
		{"", []line{{free, 0, 0, "f0>1(n1)"}}, 0},
		{"", []line{{free, 1, 0, "n1"}}, 0},
		{"", []line{{free, 0, -1, "#1"}}, 0},
		{"", []line{n, {free, 0, 1, `"x"`}}, 1},
		{"", []line{{made, 1, 0, "h(n1)"}, n}, 0}, // what is named stands behind it
		{"", []line{n, {made, 0, 2, "(n1 n2)"}, {free, 0, 0, "n2"}}, 1},
		{"", []line{{first, 1, 0, "k0"}, {made, 0, 2, "(k0 n1)"}, n, {made, 0, 0, "h(k0)"}}, 0},
		{"k3", []line{n, {made, 0, 2, "s3(n1)"}, k3}, 1},
		{"s0(k1)", []line{{show, 1, 0, "k1"}, {given, 0, 0, "s0(k1)"}}, 0},
		{"", []line{n, {made, 0, 0, "n1"}}, 1},
		{"", []line{n, {made, 0, 0, "#2"}}, 1},
		{"", []line{n, {made, 0, 0, `"x"`}}, 1},
		{"k3", []line{k3, {made, 0, 0, "k3"}}, 1},
		{"", []line{{made, 0, 0, "h(n1)"}}, 0},
		{"", []line{{made, 0, 0, "(n1 n1)"}}, 0},
		{"", []line{n, {free, 0, 0, "n2"}, {made, 1, 0, "(n1 n2)"}}, 2},
		{"", []line{n, {free, 0, 0, "n2"}, {made, 0, 0, "(n1 n2)"}}, 2},
		{"", []line{n, {free, 0, 0, "n2"}, {made, 1, 1, "(n1 n2)"}}, 2},
		{"", []line{n, {free, 0, 0, "n2"}, {made, 0, 2, "(n1 n2)"}}, 2},
		{"", []line{n, {free, 0, 0, "n2"}, {made, 0, 1, "h(n1)"}}, 2},
		{"", []line{n, {free, 0, 0, "n2"}, {made, 1, 0, "h(n1)"}}, 2},
		{"", []line{n, {made, 0, -1, "h(n1)"}}, 1},
		{"k3", []line{n, k3, {made, 1, 0, "s3(n1)"}}, 2},
		{"k3", []line{n, k3, {made, 0, 0, "s3(n1)"}}, 2},
		{"k3", []line{n, k3, {made, 0, 2, "s3(n1)"}}, 2},
		{"k3", []line{n, k3, {made, 0, -1, "s3(n1)"}}, 2},
		{"k3", []line{n, k3, {made, 1, 1, "s3(n1)"}}, 2},
		{"k3", []line{n, k3, {made, 0, 1, "s4(n1)"}}, 2},
		{"k3", []line{n, k3, {made, 0, 1, "p4>3(n1)"}}, 2},
		{"k3", []line{n, k3, {made, 0, 1, "p4>5(n1)"}}, 2},
		{"k3", []line{n, k3, {made, 0, 0, "p3>4(n1)"}}, 2},
		{"k3", []line{n, k3, {made, 0, 1, "f3>4(n1)"}}, 2},
		{"k3", []line{n, k3, {made, 0, 1, "f4>5(n1)"}}, 2},
		{"k3", []line{n, k3, {made, 0, 0, "f4>3(n1)"}}, 2},
		{"", []line{n, {free, 0, 0, "n3"}, {made, 0, 1, "s3(n1)"}}, 2},
		{"k3", []line{n, k3, {-1, 0, 0, "n1"}}, 2},
		{"k3", []line{n, k3, {6, 0, 0, "n1"}}, 2},
		{"k3", []line{n, k3, {math.MinInt, 0, 1, "s3(n1)"}}, 2},
		{"k3", []line{n, k3, {math.MaxInt, 0, 1, "s3(n1)"}}, 2},
	} {
		checks(t, x.given, x.l, api.ErrStep, x.place)
	}
}

// P8.1: numbers that name nothing, in the place of each part of a right step.
func TestCheckStrange(t *testing.T) {
	p := term.New()
	has := list(t, p, "k0, (#1 k1)")
	right := steps(t, p, []line{{given, 0, 0, "k0"}, {given, 0, 0, "(#1 k1)"}, {first, 1, 0, "#1"}, {free, 0, 0, "n3"}, {made, 2, 3, "(#1 n3)"}, {made, 4, 0, "h((#1 n3))"}, {made, 5, 0, "s0(h((#1 n3)))"}})
	if why, at := deduce.Check(p, has, right, right[6].T); why != api.OK || at != 0 {
		t.Fatalf("error %d at %d", why, at)
	}
	for i := range right {
		for _, u := range strange(p.Len()) {
			for _, more := range [][]api.Term{nil, {u}} { // what is none of the pool is passed over, where it is given
				l := slices.Clone(right)
				l[i].T = u
				if why, at := deduce.Check(p, append(slices.Clone(has), more...), l, u); why != api.ErrStep || at != i {
					t.Errorf("the step %d says %d: error %d at %d", i, u, why, at)
				}
				l[i].Rule, l[i].A, l[i].B = given, 0, 0
				if why, at := deduce.Check(p, append(slices.Clone(has), more...), l, u); why != api.ErrStep || at != i {
					t.Errorf("the step %d is given %d: error %d at %d", i, u, why, at)
				}
			}
		}
		for _, n := range []int{-1, i, i + 1, len(right), math.MinInt, math.MaxInt} {
			for _, part := range []func(s *api.Step) *int{func(s *api.Step) *int { return &s.A }, func(s *api.Step) *int { return &s.B }} {
				l := slices.Clone(right)
				if *part(&l[i]) = n; l[i] == right[i] {
					continue
				}
				if why, at := deduce.Check(p, has, l, right[6].T); why != api.ErrStep || at != i {
					t.Errorf("%v: error %d at %d instead of %d", l[i], why, at, i)
				}
			}
		}
	}
}

// P8.1: the goal is what the last step says, and is asked for behind all steps.
func TestCheckGoal(t *testing.T) {
	p := term.New()
	l := steps(t, p, []line{{free, 0, 0, "#1"}, {free, 0, 0, "n2"}, {made, 0, 1, "(#1 n2)"}})
	for _, goal := range append(strange(p.Len()), 1, 2, 3) {
		for n := range len(l) + 1 {
			want, place := api.ErrGoal, n
			if n > 0 && l[n-1].T == goal {
				want, place = api.OK, 0
			}
			if why, at := deduce.Check(p, nil, l[:n], goal); why != want || at != place {
				t.Errorf("%d steps, goal %d: error %d at %d", n, goal, why, at)
			}
		}
		wrong := append(slices.Clone(l), api.Step{Rule: free, T: 3}, api.Step{Rule: -1})
		if why, at := deduce.Check(p, nil, wrong, goal); why != api.ErrStep || at != 3 {
			t.Errorf("goal %d: error %d at %d", goal, why, at)
		}
		if why, at := deduce.Check(term.New(), nil, nil, goal); why != api.ErrGoal || at != 0 {
			t.Errorf("an empty pool, goal %d: error %d at %d", goal, why, at)
		}
		for _, none := range [][]api.Step{nil, {}, l, wrong} {
			if why, at := deduce.Check(nil, []api.Term{1}, none, goal); why != api.ErrNone || at != 0 {
				t.Errorf("a nil pool, goal %d: error %d at %d", goal, why, at)
			}
		}
	}
}

// P8.1: what is given counts as often as it is given, wherever it stands, among what is none of the pool.
func TestCheckGiven(t *testing.T) {
	p := term.New()
	k := of(t, p, "k0")
	l := []api.Step{{Rule: given, T: k}}
	for _, has := range [][]api.Term{{k}, {k, k}, append(strange(p.Len()), k), append([]api.Term{k}, strange(p.Len())...)} {
		if why, at := deduce.Check(p, has, l, k); why != api.OK || at != 0 {
			t.Errorf("given %v: error %d at %d", has, why, at)
		}
	}
	for _, has := range [][]api.Term{nil, {}, {0}, {of(t, p, "k1")}, strange(p.Len())} {
		if why, at := deduce.Check(p, has, l, k); why != api.ErrStep || at != 0 {
			t.Errorf("given %v: error %d at %d", has, why, at)
		}
	}
}

// P8.1: behind steps that say all terms of a pool, each step that could be written.
func TestCheckEachStep(t *testing.T) {
	p := term.New()
	list(t, p, `h((#1 k0)), s0(#1), s1(k0), (k0 k1), p0>1(#1), p1>0(k0), f0>1(#1), f1>0(h(k0)), (n1 "a"), s2(#1), (#1 #1)`)
	ls := laws(p)
	var has []api.Term
	for i := 0; i < p.Len(); i += 2 {
		has = append(has, api.Term(i+1))
	}
	for _, ahead := range [][]api.Step{nil, said(p, has)} {
		all := append(has, of(t, p, "k0"))
		for rule := -1; rule <= 6; rule++ {
			for a := -1; a <= len(ahead)+1; a++ {
				for b := -1; b <= len(ahead)+1; b++ {
					for u := api.Term(-1); int(u) <= p.Len()+1; u++ {
						l := append(slices.Clone(ahead), api.Step{Rule: rule, A: a, B: b, T: u})
						want, place := judge(p, ls, all, l, u)
						if why, at := deduce.Check(p, all, l, u); why != want || at != place {
							t.Fatalf("%v: error %d at %d instead of error %d at %d", l, why, at, want, place)
						}
					}
				}
			}
		}
	}
}

// said are steps that say these terms, as given.
func said(p *term.Pool, l []api.Term) []api.Step {
	var out []api.Step
	for _, u := range l {
		out = append(out, api.Step{Rule: given, T: u})
	}
	return out
}

// P8.1: rows of steps that often follow, held against the test's own judge.
func TestCheckAny(t *testing.T) {
	p := term.New()
	list(t, p, `s0((#1 k1)), h((#1 k1)), (s1(#1) n1), p0>1(s0(#1)), f1>0(h(#1)), k0, p1>0("a"), f0>1(#1), (#1 #1)`)
	ls := laws(p)
	d := dice(1)
	var right [12]int
	for range 6000 {
		has := []api.Term{api.Term(d.upTo(p.Len() + 2)), api.Term(d.upTo(p.Len() + 2)), of(t, p, "k0"), of(t, p, "s0((#1 k1))")}
		var l []api.Step
		for range 1 + d.upTo(10) {
			l = append(l, lucky(&d, p, ls, has, l))
		}
		goal := l[len(l)-1].T
		if d.upTo(8) == 0 {
			goal = api.Term(d.upTo(p.Len() + 2))
		}
		want, place := judge(p, ls, has, l, goal)
		if why, at := deduce.Check(p, has, l, goal); why != want || at != place {
			t.Fatalf("given %v: %v: error %d at %d instead of error %d at %d", has, l, why, at, want, place)
		}
		if want == api.OK {
			right[len(l)]++
		}
	}
	for n := 1; n <= 10; n++ {
		if right[n] == 0 {
			t.Errorf("no right row of %d steps", n)
		}
	}
}

// lucky is the first of some steps that follows, and now and then one that need not.
func lucky(d *dice, p *term.Pool, ls map[law]struct{}, has []api.Term, ahead []api.Step) api.Step {
	var s api.Step
	for range 300 {
		s = api.Step{Rule: d.upTo(6), A: d.upTo(len(ahead) + 1), B: d.upTo(len(ahead) + 1), T: api.Term(1 + d.upTo(p.Len()))}
		if s.Rule == given || s.Rule == free {
			s.A = 0
		}
		if s.Rule != made || d.upTo(3) == 0 {
			s.B = 0
		}
		why, _ := judge(p, ls, has, append(slices.Clone(ahead), s), s.T)
		if why == api.OK || d.upTo(2000) == 0 {
			break
		}
	}
	return s
}

// Rule 3: what is handed in stays as it is, its spare room too.
func TestCheckApart(t *testing.T) {
	p := term.New()
	has := append(list(t, p, "k0, #1"), 77, 78)
	l := append(steps(t, p, []line{{given, 0, 0, "k0"}, {made, 0, 0, "s0(k0)"}}), api.Step{Rule: 9, T: 5})
	hasWas, lWas := slices.Clone(has), slices.Clone(l)
	if why, _ := deduce.Check(p, has[:2], l[:2], l[1].T); why != api.OK || !slices.Equal(has, hasWas) || !slices.Equal(l, lWas) {
		t.Errorf("error %d, %v, %v", why, has, l)
	}
	if p.Len() != 3 {
		t.Errorf("%d terms", p.Len())
	}
}
