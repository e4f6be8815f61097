package evidence

import (
	"escrow/api"
	"escrow/letter"
	"escrow/term"
)

// Convert: P12.4.
func Convert(p *term.Pool, a, b api.Term) (api.Term, api.Errno) {
	x, y, why := promises(p, a, b)
	switch {
	case why != api.OK:
		return 0, why
	case x.Fake || y.Fake:
		return 0, api.ErrFake
	case !belong(x, y):
		return 0, api.ErrPair
	}
	return letter.Build(p, api.Letter{Kind: api.LetterInstead, C: x.C, Text: x.Text})
}

// Request: P12.5. It is made of trees, for letter.Build would make fakes of both promises where one is a fake.
func Request(p *term.Pool, who int, a, b api.Term) (api.Term, api.Errno) {
	if who != api.Originator && who != api.Responder {
		return 0, api.ErrArg
	}
	x, y, why := promises(p, a, b)
	switch {
	case why != api.OK:
		return 0, why
	case !belong(x, y):
		return 0, api.ErrPair
	}
	word := api.Tree{Kind: api.KindData, Text: "resolve"}
	wish := pair(word, pair(p.Tree(a), p.Tree(b)))
	return p.Of(api.Tree{Kind: api.KindSign, From: who, Kids: []api.Tree{wish}})
}

// promises are the letters of two terms that are promises, fakes or not; else the first error.
func promises(p *term.Pool, a, b api.Term) (x, y api.Letter, why api.Errno) {
	if p == nil {
		return x, y, api.ErrNone
	}
	_, first := p.Node(a)
	_, second := p.Node(b)
	if !first || !second {
		return x, y, api.ErrTerm
	}
	x, _ = letter.Read(p, a)
	y, _ = letter.Read(p, b)
	if x.Kind != api.LetterPromise || y.Kind != api.LetterPromise {
		return api.Letter{}, api.Letter{}, api.ErrKind
	}
	return x, y, api.OK
}

// belong is whether two promises are the originator's and the responder's of one deal.
func belong(x, y api.Letter) bool {
	return x.From == api.Originator && y.From == api.Responder && x.C == y.C && x.Text == y.Text
}

func pair(a, b api.Tree) api.Tree {
	return api.Tree{Kind: api.KindPair, Kids: []api.Tree{a, b}}
}
