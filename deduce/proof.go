package deduce

import (
	"escrow/api"
	"escrow/term"
)

// Proof: P8.4. What is seen is laid from what is given down to it, all else from its parts up: so no term waits for itself.
func (k *Know) Proof(t api.Term) ([]api.Step, bool) {
	if !k.Derives(t) {
		return nil, false
	}
	var l []api.Step
	numbers := map[api.Term]int{} // which step says a term
	var lay func(u api.Term) int
	lay = func(u api.Term) int {
		if i, again := numbers[u]; again {
			return i
		}
		s := api.Step{T: u}
		n, _ := k.pool.Node(u)
		w, seen := k.seen[u]
		switch {
		case free(n):
			s.Rule = api.RuleFree
		case seen:
			s.Rule = w.rule
			if w.from != 0 {
				s.A = lay(w.from)
			}
		default:
			a, b, _ := parts(k.pool, n)
			s.Rule, s.A = api.RuleMake, lay(a)
			if b != 0 {
				s.B = lay(b)
			}
		}
		l = append(l, s)
		numbers[u] = len(l) - 1
		return numbers[u]
	}
	lay(t)
	return l, true
}

// Check: P8.1.
func Check(p *term.Pool, given []api.Term, l []api.Step, goal api.Term) (api.Errno, int) {
	if p == nil {
		return api.ErrNone, 0
	}
	has := map[api.Term]struct{}{}
	for _, t := range given {
		has[t] = struct{}{}
	}
	for i, s := range l {
		if !follows(p, has, l[:i], s) {
			return api.ErrStep, i
		}
	}
	if len(l) == 0 || l[len(l)-1].T != goal {
		return api.ErrGoal, len(l)
	}
	return api.OK, 0
}

// follows is whether a step is as its rule says, with these steps ahead of it.
func follows(p *term.Pool, given map[api.Term]struct{}, ahead []api.Step, s api.Step) bool {
	n, there := p.Node(s.T)
	if !there {
		return false
	}
	switch s.Rule {
	case api.RuleGiven:
		_, is := given[s.T]
		return is && s.A == 0 && s.B == 0
	case api.RuleFirst, api.RuleSecond, api.RuleShow:
		from, _ := p.Node(said(ahead, s.A))
		return taken(s.Rule, from) == s.T && s.B == 0
	case api.RuleFree:
		return free(n) && s.A == 0 && s.B == 0
	case api.RuleMake:
		a, b, made := parts(p, n)
		if !made || said(ahead, s.A) != a {
			return false
		}
		if b == 0 {
			return s.B == 0
		}
		return said(ahead, s.B) == b
	}
	return false
}

// said is the term that the step with this number says; 0, which is no term, if there is no such step.
func said(ahead []api.Step, i int) api.Term {
	if i < 0 || i >= len(ahead) {
		return 0
	}
	return ahead[i].T
}
