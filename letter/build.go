package letter

import (
	"escrow/api"
	"escrow/term"
)

// Deal: P11.1.
func Deal(p *term.Pool, c uint64, text string) (api.Term, api.Errno) {
	switch {
	case len(text) > api.MaxData:
		return 0, api.ErrLong
	case p == nil:
		return 0, api.ErrArg
	}
	return p.Of(deal(c, text))
}

// Build: P11.3.
func Build(p *term.Pool, l api.Letter) (api.Term, api.Errno) {
	why := Check(l)
	switch {
	case why != api.OK:
		return 0, why
	case p == nil:
		return 0, api.ErrArg
	}
	return p.Of(tree(l))
}

// tree is the tree of a letter that Check takes.
func tree(l api.Letter) api.Tree {
	d := deal(l.C, l.Text)
	switch l.Kind {
	case api.LetterPromise:
		return promise(l.From, d, l.Fake)
	case api.LetterSign:
		return signed(l, d)
	case api.LetterResolve:
		return signed(l, told(l, pair(promise(api.Originator, d, l.Fake), promise(api.Responder, d, l.Fake))))
	case api.LetterInstead:
		return signed(l, told(l, d))
	}
	return signed(l, told(l, number(l.C)))
}

// deal is the tree of what two promise and sign.
func deal(c uint64, text string) api.Tree {
	return pair(data(dealDatum), pair(number(c), data(text)))
}

// told is what a letter tells, behind its kind's datum.
func told(l api.Letter, what api.Tree) api.Tree {
	return pair(data(kinds[l.Kind].datum), what)
}

// signed is what a letter tells, signed by whoever signs letters of its kind.
func signed(l api.Letter, what api.Tree) api.Tree {
	x := api.Tree{Kind: api.KindSign, From: kinds[l.Kind].by, Kids: []api.Tree{what}}
	switch x.From {
	case nobody:
		return what
	case party:
		x.From = l.From
	}
	return x
}

func promise(from int, what api.Tree, fake bool) api.Tree {
	x := api.Tree{Kind: api.KindProm, From: from, To: 1 - from, Kids: []api.Tree{what}}
	if fake {
		x.Kind = api.KindFake
	}
	return x
}

func pair(a, b api.Tree) api.Tree {
	return api.Tree{Kind: api.KindPair, Kids: []api.Tree{a, b}}
}

func data(s string) api.Tree {
	return api.Tree{Kind: api.KindData, Text: s}
}

func number(n uint64) api.Tree {
	return api.Tree{Kind: api.KindNum, Num: n}
}
