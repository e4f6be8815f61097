package letter

import (
	"strings"

	"escrow/api"
)

// Parse: P11.7.
func Parse(s string) (api.Letter, api.Errno, int) {
	l, at := begin(s)
	if l.Kind == 0 {
		return api.Letter{}, api.ErrLetter, 0
	}
	r := &line{s: s, at: at}
	if kinds[l.Kind].from {
		l.From = int(r.one("01") - '0')
		r.one(" ")
	}
	l.C = r.number()
	if kinds[l.Kind].text {
		r.one(" ")
		l.Text = r.text()
	}
	r.end()
	if r.why != api.OK {
		return api.Letter{}, r.why, r.at
	}
	return l, api.OK, 0
}

// begin is the letter that a line's word is for, yet without its other fields, and where these begin; one of Kind 0, if it begins with no word.
func begin(s string) (api.Letter, int) {
	word, _, behind := strings.Cut(s, " ")
	for kind := 1; behind && kind < len(kinds); kind++ {
		for _, fake := range []bool{false, kinds[kind].fake} {
			if word == head(kind, fake) {
				return api.Letter{Kind: kind, Fake: fake}, len(word) + 1
			}
		}
	}
	return api.Letter{}, 0
}
