package letter

import "escrow/api"

// Who says a letter, and to whom it goes, where that is not one name.
const (
	everybody = -1 // to both parties
	other     = -2 // to the party that From is not
	party     = -3 // by From
	nobody    = -4 // nobody signs it
)

// kinds tells of each kind its word in a line, the datum that stands ahead in what is signed, who signs, to whom it goes, and which fields it has beside C.
var kinds = [...]struct {
	word  string
	datum string
	by    int
	to    int
	from  bool
	text  bool
	fake  bool
}{
	api.LetterPromise: {word: "promise", by: nobody, to: other, from: true, text: true, fake: true},
	api.LetterSign:    {word: "sign", datum: dealDatum, by: party, to: other, from: true, text: true},
	api.LetterAbort:   {word: "abort", datum: "abort", by: api.Originator, to: api.Notary},
	api.LetterResolve: {word: "resolve", datum: "resolve", by: party, to: api.Notary, from: true, text: true, fake: true},
	api.LetterToken:   {word: "token", datum: "aborted", by: api.Notary, to: everybody},
	api.LetterInstead: {word: "instead", datum: "instead", by: api.Notary, to: everybody, text: true},
	api.LetterFull:    {word: "full", datum: "full", by: nobody, to: everybody},
}

const dealDatum = "deal"
