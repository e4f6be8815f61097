package view

import (
	"escrow/api"
	"escrow/term"
)

// Alike: P10.3.
func Alike(p *term.Pool, who int, l, m []api.Term) bool {
	if refuse(p, who, l...) != api.OK || refuse(p, who, m...) != api.OK || len(l) != len(m) {
		return false
	}
	there, back := map[api.Term]api.Term{0: 0}, map[api.Term]api.Term{0: 0} // none corresponds to none
	var correspond func(a, b api.Term) bool
	correspond = func(a, b api.Term) bool {
		if other, met := there[a]; met {
			return other == b
		}
		if _, taken := back[b]; taken {
			return false
		}
		there[a], back[b] = b, a
		x, _ := p.Node(a)
		y, _ := p.Node(b)
		return same(who, x, y) && correspond(x.A, y.A) && correspond(x.B, y.B)
	}
	for i := range l {
		if !correspond(l[i], m[i]) {
			return false
		}
	}
	return true
}

// same is whether that name finds no difference between two nodes themselves, whatever they are made of.
func same(who int, x, y api.Node) bool {
	if veiled(who, x) && veiled(who, y) {
		x.Kind = y.Kind
	}
	x.A, x.B = y.A, y.B
	return x == y
}
