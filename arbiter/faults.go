package arbiter

import (
	"cmp"
	"slices"
	"strconv"

	"escrow/api"
	"escrow/letter"
	"escrow/term"
)

// docket is what the letters of one contract tell against anybody.
type docket struct {
	heard  []exhibit // the first of each kind from each name, by their places
	faults []api.Fault
}

// exhibit is a letter that was shown at a place.
type exhibit struct {
	at     int
	letter api.Letter
}

// Faults: P13.3.
func Faults(p *term.Pool, shown []api.Term) []api.Fault {
	dockets := map[uint64]*docket{}
	for at, t := range shown {
		l, ok := letter.Read(p, t)
		if !ok {
			continue
		}
		if dockets[l.C] == nil {
			dockets[l.C] = &docket{}
		}
		dockets[l.C].hear(exhibit{at: at, letter: l})
	}
	var out []api.Fault
	for _, d := range dockets {
		out = append(out, d.faults...)
	}
	slices.SortFunc(out, byPlaces)
	return out
}

// hear holds an exhibit against those heard ahead of it. Of each kind from each name the first one is enough: what another one would tell with this, the first one tells with this too, or has told with the other.
func (d *docket) hear(b exhibit) {
pairs:
	for _, a := range d.heard {
		who, kind := tell(a.letter, b.letter)
		if kind == 0 {
			continue pairs
		}
		for _, f := range d.faults {
			if f.Who == who && f.Kind == kind {
				continue pairs
			}
		}
		d.faults = append(d.faults, api.Fault{Who: who, C: b.letter.C, Kind: kind, A: a.at, B: b.at})
	}
	alike := func(a exhibit) bool {
		return a.letter.Kind == b.letter.Kind && a.letter.From == b.letter.From
	}
	if !slices.ContainsFunc(d.heard, alike) {
		d.heard = append(d.heard, b)
	}
}

// tell is what two letters of one contract tell against whom: of kind 0, if nothing.
func tell(a, b api.Letter) (who, kind int) {
	signed := a.Kind == api.LetterSign && b.Kind == api.LetterSign
	switch {
	case signed && a.From == b.From && a.Text != b.Text:
		return a.From, api.FaultTexts
	case isVerdict(a) && isVerdict(b) && a != b:
		return api.Notary, api.FaultTwo
	case isBroken(a, b), isBroken(b, a):
		return api.Originator, api.FaultBroken
	}
	return 0, 0
}

func isVerdict(l api.Letter) bool {
	return l.Kind == api.LetterToken || l.Kind == api.LetterInstead
}

// isBroken is whether the originator signed by one letter what it asked to abort by the other.
func isBroken(signed, aborted api.Letter) bool {
	return signed.Kind == api.LetterSign && signed.From == api.Originator && aborted.Kind == api.LetterAbort
}

func byPlaces(f, g api.Fault) int {
	return cmp.Or(cmp.Compare(f.A, g.A), cmp.Compare(f.B, g.B))
}

// Explain: P13.7.
func Explain(f api.Fault) string {
	c := strconv.FormatUint(f.C, 10)
	switch f.Kind {
	case api.FaultTexts:
		return "party " + strconv.Itoa(f.Who) + " signed two texts of " + c
	case api.FaultTwo:
		return "the notary gave two verdicts on " + c
	case api.FaultBroken:
		return "the originator signed " + c + " and asked to abort it"
	}
	return ""
}
