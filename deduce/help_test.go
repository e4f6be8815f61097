package deduce_test

import (
	"maps"
	"math"
	"slices"
	"strconv"
	"strings"
	"testing"

	"escrow/api"
	"escrow/deduce"
	"escrow/speak"
	"escrow/term"
)

// dice is a row of numbers that looks like chance, the same each time.
type dice uint64

func (d *dice) upTo(n int) int {
	*d = *d*6364136223846793005 + 1442695040888963407
	return int(uint64(*d) >> 33 % uint64(n))
}

// strange are numbers that are no term of a pool of so many.
func strange(long int) []api.Term {
	return []api.Term{0, -1, -2, api.Term(long) + 1, api.Term(long) + 2, math.MinInt, math.MinInt + 1, math.MaxInt - 1, math.MaxInt}
}

// of is the term of a text.
func of(t *testing.T, p *term.Pool, text string) api.Term {
	t.Helper()
	u, why, at := speak.Parse(p, text)
	if u == 0 || why != api.OK {
		t.Fatalf("%s: error %d at %d", text, why, at)
	}
	return u
}

// list are the terms of texts that stand behind one another with a comma between.
func list(t *testing.T, p *term.Pool, texts string) []api.Term {
	t.Helper()
	var l []api.Term
	for text := range strings.SplitSeq(texts, ", ") {
		if text != "" {
			l = append(l, of(t, p, text))
		}
	}
	return l
}

func shown(p *term.Pool, l []api.Term) string {
	var texts []string
	for _, u := range l {
		texts = append(texts, speak.Print(p, u))
	}
	return strings.Join(texts, ", ")
}

// knowing is one who was given these.
func knowing(t *testing.T, p *term.Pool, l []api.Term) *deduce.Know {
	t.Helper()
	k := deduce.New(p)
	for _, u := range l {
		if why := k.Add(u); why != api.OK {
			t.Fatalf("Add(%d): error %d", u, why)
		}
	}
	return k
}

// law is a step that may be in a proof: A and B are terms here, 0 where the rule does not name them.
type law struct {
	rule int
	a, b api.Term
	t    api.Term
}

// laws are all of a pool, but those of what is given: each rule is tried forward, on all terms and pairs of them.
func laws(p *term.Pool) map[law]struct{} {
	l := map[law]struct{}{}
	put := func(rule int, a, b api.Term, n api.Node) {
		if t, there := p.Has(n); there {
			l[law{rule, a, b, t}] = struct{}{}
		}
	}
	for i := range p.Len() {
		a := api.Term(i + 1)
		n, _ := p.Node(a)
		switch n.Kind {
		case api.KindName, api.KindNum, api.KindData:
			l[law{rule: api.RuleFree, t: a}] = struct{}{}
		case api.KindPair:
			l[law{rule: api.RuleFirst, a: a, t: n.A}] = struct{}{}
			l[law{rule: api.RuleSecond, a: a, t: n.B}] = struct{}{}
		case api.KindSign, api.KindProm, api.KindFake:
			l[law{rule: api.RuleShow, a: a, t: n.A}] = struct{}{}
		}
		put(api.RuleMake, a, 0, api.Node{Kind: api.KindHash, A: a})
		for j := range p.Len() {
			b := api.Term(j + 1)
			put(api.RuleMake, a, b, api.Node{Kind: api.KindPair, A: a, B: b})
			if key, _ := p.Node(b); key.Kind == api.KindKey {
				put(api.RuleMake, a, b, api.Node{Kind: api.KindSign, From: key.From, A: a})
				for other := range api.MaxNames {
					put(api.RuleMake, a, b, api.Node{Kind: api.KindProm, From: key.From, To: other, A: a})
					put(api.RuleMake, a, b, api.Node{Kind: api.KindFake, From: other, To: key.From, A: a})
				}
			}
		}
	}
	return l
}

// reached are the terms that a proof may say: these laws are gone over until nothing is new.
func reached(l map[law]struct{}, given []api.Term) map[api.Term]struct{} {
	got := map[api.Term]struct{}{0: {}} // what a law does not name is always there
	for _, u := range given {
		got[u] = struct{}{}
	}
	for before := 0; before != len(got); {
		before = len(got)
		for x := range l {
			_, a := got[x.a]
			_, b := got[x.b]
			if a && b {
				got[x.t] = struct{}{}
			}
		}
	}
	delete(got, 0)
	return got
}

// opening are the laws that only take apart.
func opening(l map[law]struct{}) map[law]struct{} {
	own := map[law]struct{}{}
	for x := range l {
		if x.rule == api.RuleFirst || x.rule == api.RuleSecond || x.rule == api.RuleShow {
			own[x] = struct{}{}
		}
	}
	return own
}

func rising(l map[api.Term]struct{}) []api.Term {
	return slices.Sorted(maps.Keys(l))
}

// judge is what Check should tell in a pool with these laws.
func judge(p *term.Pool, ls map[law]struct{}, given []api.Term, l []api.Step, goal api.Term) (api.Errno, int) {
	for i, s := range l {
		right := lawful(ls, l[:i], s)
		if s.Rule == api.RuleGiven {
			right = s.T >= 1 && int(s.T) <= p.Len() && slices.Contains(given, s.T) && s.A == 0 && s.B == 0
		}
		if !right {
			return api.ErrStep, i
		}
	}
	if n := len(l); n == 0 || l[n-1].T != goal {
		return api.ErrGoal, n
	}
	return api.OK, 0
}

// lawful is whether there is a law for a step: one that names no terms, the first, or both.
func lawful(ls map[law]struct{}, ahead []api.Step, s api.Step) bool {
	at := func(i int) api.Term {
		if i < 0 || i >= len(ahead) {
			return -1
		}
		return ahead[i].T
	}
	_, none := ls[law{s.Rule, 0, 0, s.T}]
	_, one := ls[law{s.Rule, at(s.A), 0, s.T}]
	_, both := ls[law{s.Rule, at(s.A), at(s.B), s.T}]
	return none && s.A == 0 && s.B == 0 || one && s.B == 0 || both
}

// proven fails if Proof does not tell a proof of a term, as P8.4 has it.
func proven(t *testing.T, p *term.Pool, k *deduce.Know, u api.Term) {
	t.Helper()
	l, ok := k.Proof(u)
	if why, at := deduce.Check(p, k.Given(), l, u); !ok || why != api.OK || at != 0 {
		t.Fatalf("of %s, given %s: %v, %t: error %d at %d", speak.Print(p, u), shown(p, k.Given()), l, ok, why, at)
	}
	may := map[api.Term]struct{}{}
	for _, whole := range append(k.Given(), u) {
		for v := range p.Subs(whole) {
			may[v] = struct{}{}
		}
	}
	for i, s := range l {
		if _, is := may[s.T]; !is {
			t.Fatalf("of %s, given %s: the step %d says %s, again or without need", speak.Print(p, u), shown(p, k.Given()), i, speak.Print(p, s.T))
		}
		delete(may, s.T) // a second time it may not be said
	}
}

// unproven fails if a term is derived.
func unproven(t *testing.T, p *term.Pool, k *deduce.Know, u api.Term) {
	t.Helper()
	if l, ok := k.Proof(u); ok || len(l) != 0 || k.Derives(u) {
		t.Fatalf("of %d %s, given %s: %v, %t, Derives %t", u, speak.Print(p, u), shown(p, k.Given()), l, ok, k.Derives(u))
	}
}

// anyText is a term's text of few words, so that alike ones come often.
func anyText(d *dice, deep int) string {
	kinds := 9
	if deep == 0 {
		kinds = 4
	}
	from := d.upTo(3)
	two := strconv.Itoa(from) + ">" + strconv.Itoa((from+1+d.upTo(2))%3)
	switch d.upTo(kinds) {
	case 0:
		return "n" + strconv.Itoa(from)
	case 1:
		return "#" + strconv.Itoa(from)
	case 2:
		return strconv.Quote("ab"[:from])
	case 3:
		return "k" + strconv.Itoa(from)
	case 4:
		return "h(" + anyText(d, deep-1) + ")"
	case 5:
		return "s" + strconv.Itoa(from) + "(" + anyText(d, deep-1) + ")"
	case 6:
		return "p" + two + "(" + anyText(d, deep-1) + ")"
	case 7:
		return "f" + two + "(" + anyText(d, deep-1) + ")"
	}
	return "(" + anyText(d, deep-1) + " " + anyText(d, deep-1) + ")"
}
