package recipe

import "escrow/api"

// Trim: P9.4.
func Trim(l []api.Op) []api.Op {
	if len(l) == 0 {
		return nil
	}
	all := codes()
	part := make([]bool, len(l))
	part[len(l)-1] = true
	for i := len(l) - 1; i >= 0; i-- { // from behind: whatever names an operation stands behind it
		o := l[i]
		for _, at := range all[o.Code].names(&o, i) {
			part[*at] = part[*at] || part[i]
		}
	}
	var kept []api.Op
	now := make([]int, len(l)) // the numbers of those that are kept
	for i, o := range l {
		if !part[i] {
			continue
		}
		for _, at := range all[o.Code].names(&o, i) {
			*at = now[*at]
		}
		now[i] = len(kept)
		kept = append(kept, o)
	}
	return kept
}

// names are the fields of the operation with this number in which it names one that is ahead of it.
func (c code) names(o *api.Op, number int) []*int {
	var l []*int
	if c.a != nil && below(o.A, number) {
		l = append(l, &o.A)
	}
	if c.b != nil && below(o.B, number) {
		l = append(l, &o.B)
	}
	return l
}
