package wire

import (
	"escrow/api"
	"escrow/codec"
)

// field is how one field of a node is laid, and read. Both ways stand side by side, so that they hold to the same.
type field struct {
	put  func(n api.Node) []byte
	read func(r *codec.Reader, n *api.Node)
}

// kinds are the fields that each kind has, in the order in which they stand in a text.
func kinds() map[int][]field {
	from := nameField(func(n *api.Node) *int { return &n.From })
	to := nameField(func(n *api.Node) *int { return &n.To })
	num := field{
		put:  func(n api.Node) []byte { return codec.PutNum(nil, n.Num) },
		read: func(r *codec.Reader, n *api.Node) { n.Num = r.Num() },
	}
	text := field{
		put:  func(n api.Node) []byte { return codec.PutText(nil, n.Text) },
		read: func(r *codec.Reader, n *api.Node) { n.Text = r.Text(api.MaxData) },
	}
	a := subField(func(n *api.Node) *api.Term { return &n.A })
	b := subField(func(n *api.Node) *api.Term { return &n.B })
	return map[int][]field{
		api.KindName: {from},
		api.KindNum:  {num},
		api.KindData: {text},
		api.KindPair: {a, b},
		api.KindHash: {a},
		api.KindKey:  {from},
		api.KindSign: {from, a},
		api.KindProm: {from, to, a},
		api.KindFake: {from, to, a},
	}
}

// nameField is one that has a name. A number above all names becomes the first that is none, so that an int of any width holds it.
func nameField(of func(n *api.Node) *int) field {
	return field{
		put:  func(n api.Node) []byte { return codec.PutNum(nil, uint64(*of(&n))) },
		read: func(r *codec.Reader, n *api.Node) { *of(n) = int(min(r.Num(), api.MaxNames)) },
	}
}

// subField is one that has a subterm. Subterms are counted from 0 on in a text, and from 1 on in a pool; a number above all terms becomes one that no pool has.
func subField(of func(n *api.Node) *api.Term) field {
	return field{
		put:  func(n api.Node) []byte { return codec.PutNum(nil, uint64(*of(&n)-1)) },
		read: func(r *codec.Reader, n *api.Node) { *of(n) = api.Term(min(r.Num(), api.MaxTerms)) + 1 },
	}
}
