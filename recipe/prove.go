package recipe

import (
	"slices"

	"escrow/api"
	"escrow/deduce"
	"escrow/term"
)

// For: P9.3.
func For(p *term.Pool, k *deduce.Know, t api.Term) ([]api.Op, bool) {
	steps, derived := k.Proof(t)
	if p == nil || !derived || len(steps) > api.MaxOps {
		return nil, false
	}
	given := k.Given()
	var l []api.Op
	for _, s := range steps {
		l = append(l, saying(p, given, s))
	}
	return l, true
}

// saying is the operation that makes what a step says. Operations and steps have the same numbers.
func saying(p *term.Pool, given []api.Term, s api.Step) api.Op {
	switch s.Rule {
	case api.RuleGiven:
		return api.Op{Code: api.OpKnown, A: slices.Index(given, s.T)}
	case api.RuleFirst:
		return api.Op{Code: api.OpFirst, A: s.A}
	case api.RuleSecond:
		return api.Op{Code: api.OpSecond, A: s.A}
	case api.RuleShow:
		return api.Op{Code: api.OpShow, A: s.A}
	}
	n, _ := p.Node(s.T)
	return putting(n, s.A, s.B)
}

// putting is the operation that makes a term of this node of what the operations a and b make.
func putting(n api.Node, a, b int) api.Op {
	switch n.Kind {
	case api.KindName:
		return api.Op{Code: api.OpName, A: n.From}
	case api.KindNum:
		return api.Op{Code: api.OpNum, Num: n.Num}
	case api.KindData:
		return api.Op{Code: api.OpData, Text: n.Text}
	case api.KindPair:
		return api.Op{Code: api.OpPair, A: a, B: b}
	case api.KindHash:
		return api.Op{Code: api.OpHash, A: a}
	case api.KindSign:
		return api.Op{Code: api.OpSign, A: a, B: b}
	case api.KindProm:
		return api.Op{Code: api.OpProm, A: a, B: b, Num: uint64(n.To)}
	}
	return api.Op{Code: api.OpFake, A: a, B: b, Num: uint64(n.From)}
}
