package letter

import (
	"escrow/api"
	"escrow/term"
)

// ReadDeal: P11.1.
func ReadDeal(p *term.Pool, t api.Term) (uint64, string, bool) {
	datum, body := split(p, t)
	n, _ := p.Node(body)
	c, isNumber := readNumber(p, n.A)
	text, _ := p.Node(n.B)
	if datum != dealDatum || !isNumber || text.Kind != api.KindData {
		return 0, "", false
	}
	return c, text.Text, true
}

// Read: P11.4.
func Read(p *term.Pool, t api.Term) (api.Letter, bool) {
	var l api.Letter
	var ok bool
	n, _ := p.Node(t)
apart:
	switch n.Kind {
	case api.KindProm, api.KindFake:
		l, ok = readPromise(p, t)
	case api.KindSign, api.KindPair:
		by, inner := signer(n, t)
		datum, body := split(p, inner)
		l.Kind = kindOf(datum)
		switch who := kinds[l.Kind].by; {
		case l.Kind == 0:
			break apart
		case who == party && isParty(by):
			l.From = by
		case who != by:
			break apart
		}
		switch l.Kind {
		case api.LetterSign:
			l.C, l.Text, ok = ReadDeal(p, inner)
		case api.LetterResolve:
			l.C, l.Text, l.Fake, ok = readBoth(p, body)
		case api.LetterInstead:
			l.C, l.Text, ok = ReadDeal(p, body)
		default:
			l.C, ok = readNumber(p, body)
		}
	}
	if !ok {
		return api.Letter{}, false
	}
	return l, true
}

// kindOf is the kind of letter in which a datum stands ahead; 0, if in none. No datum is that of no kind: 0 stands first.
func kindOf(datum string) int {
	for kind, k := range kinds {
		if k.datum == datum {
			return kind
		}
	}
	return 0
}

// signer is who signed a term, and what; nobody and the term itself, if it is not signed.
func signer(n api.Node, t api.Term) (int, api.Term) {
	if n.Kind == api.KindSign {
		return n.From, n.A
	}
	return nobody, t
}

func isParty(name int) bool {
	return name == api.Originator || name == api.Responder
}

// split is the datum that stands ahead in a pair, and what stands behind it. No other term has anything behind.
func split(p *term.Pool, t api.Term) (string, api.Term) {
	n, _ := p.Node(t)
	ahead, _ := p.Node(n.A)
	return ahead.Text, n.B
}

func readNumber(p *term.Pool, t api.Term) (uint64, bool) {
	n, _ := p.Node(t)
	return n.Num, n.Kind == api.KindNum
}

// readPromise is the letter of a promise, or of a fake, that one party gave the other of a deal.
func readPromise(p *term.Pool, t api.Term) (api.Letter, bool) {
	n, _ := p.Node(t)
	fake := n.Kind == api.KindFake
	c, text, ok := ReadDeal(p, n.A)
	if !ok || n.Kind != api.KindProm && !fake || !isParty(n.From) || !isParty(n.To) {
		return api.Letter{}, false
	}
	return api.Letter{Kind: api.LetterPromise, From: n.From, C: c, Text: text, Fake: fake}, true
}

// readBoth is of which deal a pair holds both promises, the originator's first; and whether one is a fake.
func readBoth(p *term.Pool, t api.Term) (uint64, string, bool, bool) {
	n, _ := p.Node(t)
	a, isFirst := readPromise(p, n.A)
	b, isSecond := readPromise(p, n.B)
	switch {
	case !isFirst, !isSecond, a.From != api.Originator, b.From != api.Responder, a.C != b.C, a.Text != b.Text:
		return 0, "", false, false
	}
	return a.C, a.Text, a.Fake || b.Fake, true
}
