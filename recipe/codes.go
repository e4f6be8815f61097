package recipe

import (
	"escrow/api"
	"escrow/term"
)

// making is how far the operations of a recipe have come.
type making struct {
	pool  *term.Pool
	known []api.Term
	made  []api.Term // by the operation with this number
}

// code is what operations of one code are: what the terms have to be that A and B lead to (nil: A, or B, names no operation), and what is made of them.
type code struct {
	a, b  func(n api.Node) bool
	makes func(m *making, o api.Op) (api.Term, api.Errno)
}

// codes are all that there are.
func codes() map[int]code {
	return map[int]code{
		api.OpKnown: {makes: func(m *making, o api.Op) (api.Term, api.Errno) {
			if !below(o.A, len(m.known)) {
				return 0, api.ErrOp
			}
			return m.known[o.A], api.OK
		}},
		api.OpName: {makes: func(m *making, o api.Op) (api.Term, api.Errno) { return m.pool.Name(o.A) }},
		api.OpNum:  {makes: func(m *making, o api.Op) (api.Term, api.Errno) { return m.pool.Num(o.Num) }},
		api.OpData: {makes: func(m *making, o api.Op) (api.Term, api.Errno) { return m.pool.Data(o.Text) }},
		api.OpPair: {a: isAny, b: isAny, makes: func(m *making, o api.Op) (api.Term, api.Errno) {
			return m.pool.Pair(m.made[o.A], m.made[o.B])
		}},
		api.OpHash: {a: isAny, makes: func(m *making, o api.Op) (api.Term, api.Errno) {
			return m.pool.Hash(m.made[o.A])
		}},
		api.OpFirst: {a: isPair, makes: func(m *making, o api.Op) (api.Term, api.Errno) {
			return m.node(o.A).A, api.OK
		}},
		api.OpSecond: {a: isPair, makes: func(m *making, o api.Op) (api.Term, api.Errno) {
			return m.node(o.A).B, api.OK
		}},
		api.OpShow: {a: shows, makes: func(m *making, o api.Op) (api.Term, api.Errno) {
			return m.node(o.A).A, api.OK
		}},
		api.OpSign: {a: isAny, b: isKey, makes: func(m *making, o api.Op) (api.Term, api.Errno) {
			return m.pool.Sign(m.node(o.B).From, m.made[o.A])
		}},
		api.OpProm: {a: isAny, b: isKey, makes: func(m *making, o api.Op) (api.Term, api.Errno) {
			return m.pool.Prom(m.node(o.B).From, nameOf(o.Num), m.made[o.A])
		}},
		api.OpFake: {a: isAny, b: isKey, makes: func(m *making, o api.Op) (api.Term, api.Errno) {
			return m.pool.Fake(nameOf(o.Num), m.node(o.B).From, m.made[o.A])
		}},
	}
}

// do makes what the next operation says.
func (m *making) do(c code, o api.Op) (api.Term, api.Errno) {
	if c.makes == nil || !m.fits(c.a, o.A) || !m.fits(c.b, o.B) {
		return 0, api.ErrOp
	}
	return c.makes(m, o)
}

// fits is whether the operation with this number is ahead, and makes a term that will do.
func (m *making) fits(will func(n api.Node) bool, at int) bool {
	return will == nil || below(at, len(m.made)) && will(m.node(at))
}

// node is how the term is made that an operation ahead makes.
func (m *making) node(at int) api.Node {
	n, _ := m.pool.Node(m.made[at])
	return n
}

func below(i, end int) bool {
	return i >= 0 && i < end
}

// nameOf is the name that a number names. A number above all names becomes the first that is none, so that an int of any width holds it.
func nameOf(n uint64) int {
	return int(min(n, api.MaxNames))
}

func isAny(n api.Node) bool {
	return true
}

func isPair(n api.Node) bool {
	return n.Kind == api.KindPair
}

func isKey(n api.Node) bool {
	return n.Kind == api.KindKey
}

func shows(n api.Node) bool {
	return n.Kind == api.KindSign || n.Kind == api.KindProm || n.Kind == api.KindFake
}
