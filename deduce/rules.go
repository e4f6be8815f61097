package deduce

import (
	"escrow/api"
	"escrow/term"
)

// free is whether anybody can say a term of this node.
func free(n api.Node) bool {
	return n.Kind == api.KindName || n.Kind == api.KindNum || n.Kind == api.KindData
}

// taken is what a rule takes out of a term of this node; 0: nothing.
func taken(rule int, n api.Node) api.Term {
	switch n.Kind {
	case api.KindPair:
		if rule == api.RuleFirst {
			return n.A
		}
		if rule == api.RuleSecond {
			return n.B
		}
	case api.KindSign, api.KindProm, api.KindFake:
		if rule == api.RuleShow {
			return n.A
		}
	}
	return 0
}

// parts are the terms of which a term of this node is made, the second 0 where one is enough. It is not made where its kind is not, nor where the pool does not have the key for it, which nobody can say then.
func parts(p *term.Pool, n api.Node) (a, b api.Term, made bool) {
	switch n.Kind {
	case api.KindPair:
		return n.A, n.B, true
	case api.KindHash:
		return n.A, 0, true
	case api.KindSign, api.KindProm:
		key, there := keyOf(p, n.From)
		return n.A, key, there
	case api.KindFake:
		key, there := keyOf(p, n.To)
		return n.A, key, there
	}
	return 0, 0, false
}

func keyOf(p *term.Pool, name int) (api.Term, bool) {
	return p.Has(api.Node{Kind: api.KindKey, From: name})
}
