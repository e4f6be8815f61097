package term

import "escrow/api"

// Of: P5.5.
func (p *Pool) Of(x api.Tree) (api.Term, api.Errno) {
	if p == nil {
		return 0, api.OK
	}
	if _, why := survey(x, 0, 0); why != api.OK {
		return 0, why
	}
	before := p.Len()
	t, why := p.grow(x)
	if why != api.OK {
		p.cut(before)
	}
	return t, why
}

// Tree: P5.5.
func (p *Pool) Tree(t api.Term) api.Tree {
	n, _ := p.Node(t)
	x := api.Tree{Kind: n.Kind, From: n.From, To: n.To, Num: n.Num, Text: n.Text}
	if kids := shapeOf(n.Kind).kids; kids > 0 {
		x.Kids = make([]api.Tree, kids)
		for i, kid := range []api.Term{n.A, n.B}[:kids] {
			x.Kids[i] = p.Tree(kid)
		}
	}
	return x
}

// survey goes through a tree ahead of which there are so many nodes, and which stands inside so many others. It answers how many there are behind it, or the first error.
func survey(x api.Tree, ahead, inside int) (int, api.Errno) {
	if why := wrongTree(x, ahead, inside); why != api.OK {
		return 0, why
	}
	ahead++
	for _, kid := range x.Kids {
		n, why := survey(kid, ahead, inside+1)
		if why != api.OK {
			return 0, why
		}
		ahead = n
	}
	return ahead, api.OK
}

// wrongTree looks at a tree's first node alone. The limits stand ahead of all else, so that a tree that stands in itself comes to an end.
func wrongTree(x api.Tree, ahead, inside int) api.Errno {
	switch {
	case ahead >= api.MaxSize || inside >= api.MaxDepth:
		return api.ErrLarge
	case len(x.Kids) != shapeOf(x.Kind).kids:
		return api.ErrTree
	}
	return wrong(bare(x))
}

// grow makes the terms of a tree that survey found right; what it made stays where the pool has no more room.
func (p *Pool) grow(x api.Tree) (api.Term, api.Errno) {
	var kids [2]api.Term
	for i, kid := range x.Kids {
		t, why := p.grow(kid)
		if why != api.OK {
			return 0, why
		}
		kids[i] = t
	}
	n := bare(x)
	n.A, n.B = kids[0], kids[1]
	return p.Make(n)
}

// bare is a tree's first node without its kids.
func bare(x api.Tree) api.Node {
	return api.Node{Kind: x.Kind, From: x.From, To: x.To, Num: x.Num, Text: x.Text}
}
