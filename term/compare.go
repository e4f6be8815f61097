package term

import (
	"cmp"

	"escrow/api"
)

// Compare: P5.8. A term is there once, so of A and B only the first that differs has to be gone into.
func (p *Pool) Compare(a, b api.Term) int {
	x, y := p.look(a).node, p.look(b).node // of none the kind is 0, ahead of all others
	own := cmp.Or(
		cmp.Compare(x.Kind, y.Kind),
		cmp.Compare(x.From, y.From),
		cmp.Compare(x.To, y.To),
		cmp.Compare(x.Num, y.Num),
		cmp.Compare(x.Text, y.Text),
	)
	switch {
	case own != 0:
		return own
	case x.A != y.A:
		return p.Compare(x.A, y.A)
	case x.B != y.B:
		return p.Compare(x.B, y.B)
	}
	return 0
}
