package term

import "escrow/api"

// shape says which fields a kind has; of A and B it has the first so many.
type shape struct {
	from, to, num, text bool
	kids                int
}

var shapes = [...]shape{
	api.KindName: {from: true},
	api.KindNum:  {num: true},
	api.KindData: {text: true},
	api.KindPair: {kids: 2},
	api.KindHash: {kids: 1},
	api.KindKey:  {from: true},
	api.KindSign: {from: true, kids: 1},
	api.KindProm: {from: true, to: true, kids: 1},
	api.KindFake: {from: true, to: true, kids: 1},
}

// shapeOf is without fields just where the kind is none.
func shapeOf(kind int) shape {
	if kind < 0 || kind >= len(shapes) {
		return shape{}
	}
	return shapes[kind]
}

// wrong tells what no pool takes of a node, whichever terms A and B are; OK, if there is nothing.
func wrong(n api.Node) api.Errno {
	s := shapeOf(n.Kind)
	switch {
	case s == shape{} || s.lacks(n):
		return api.ErrTree
	case s.from && !isName(n.From) || s.to && !isName(n.To) || s.to && n.From == n.To:
		return api.ErrName
	case len(n.Text) > api.MaxData:
		return api.ErrLong
	}
	return api.OK
}

// lacks is whether the node has something in a field that the kind does not have.
func (s shape) lacks(n api.Node) bool {
	return !s.from && n.From != 0 ||
		!s.to && n.To != 0 ||
		!s.num && n.Num != 0 ||
		!s.text && n.Text != "" ||
		s.kids < 1 && n.A != 0 ||
		s.kids < 2 && n.B != 0
}

func isName(n int) bool {
	return n >= 0 && n < api.MaxNames
}
