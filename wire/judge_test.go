package wire_test

import (
	"slices"
	"strconv"

	"escrow/api"
)

// stood is a subterm of a text that is judged: its own bytes, its size and depth, and which subterms ahead of it it is made of.
type stood struct {
	text        string
	at          int
	size, depth int
	kids        []int
}

// judge is what Decode should tell of a text, found by another way than Decode's: a list of subterms, without pool and reader.
func judge(text string) (api.Errno, int) {
	switch {
	case len(text) > api.MaxWire:
		return api.ErrLong, 0
	case text == "":
		return api.ErrShort, 0
	}
	var l []stood
	for at := 0; at < len(text); at += len(l[len(l)-1].text) {
		x, why := judgeOne(text[at:], l)
		if why != api.OK {
			return why, at
		}
		x.at = at
		l = append(l, x)
	}
	for i, k := range order(l, len(l)-1, nil) {
		if i != k {
			return api.ErrOrder, l[i].at
		}
	}
	return api.OK, 0
}

// order is in which order the subterms of this one should stand.
func order(l []stood, of int, ahead []int) []int {
	for _, kid := range l[of].kids {
		ahead = order(l, kid, ahead)
	}
	if slices.Contains(ahead, of) {
		return ahead
	}
	return append(ahead, of)
}

// judgeOne looks at the subterm with which a text begins.
func judgeOne(text string, l []stood) (stood, api.Errno) {
	kind := text[0]
	if kind < 1 || kind > 9 {
		return stood{}, api.ErrTag
	}
	fields, why, long := numbersOf(kind, text[1:])
	if why != api.OK {
		return stood{}, why
	}
	x := stood{text: text[:1+long], size: 1, depth: 1}
	names := []int{0, 1, 0, 0, 0, 0, 1, 1, 2, 2}[kind]
	for _, n := range fields[:names] {
		if n > 15 {
			return x, api.ErrName
		}
	}
	if names == 2 && fields[0] == fields[1] {
		return x, api.ErrName
	}
	if kind == 2 || kind == 3 {
		names = len(fields)
	}
	for _, n := range fields[names:] {
		if n >= uint64(len(l)) {
			return x, api.ErrRef
		}
		x.kids = append(x.kids, int(n))
		x.size += l[n].size
		x.depth = max(x.depth, 1+l[n].depth)
	}
	if x.size > 4096 || x.depth > 64 {
		return x, api.ErrLarge
	}
	for _, y := range l {
		if y.text == x.text {
			return x, api.ErrTwice
		}
	}
	return x, api.OK
}

// numbersOf are the numbers that stand behind a kind, and how many bytes they have, with those of a datum.
func numbersOf(kind byte, text string) ([]uint64, api.Errno, int) {
	var l []uint64
	at := 0
	for range []int{0, 1, 1, 1, 2, 1, 1, 2, 3, 3}[kind] {
		n, why, long := numberOf(text[at:])
		if why != api.OK {
			return nil, why, 0
		}
		l = append(l, n)
		at += long
	}
	if kind == 3 {
		switch n := l[0]; {
		case n > 64:
			return nil, api.ErrLong, 0
		case n > uint64(len(text)-at):
			return nil, api.ErrShort, 0
		}
		at += int(l[0])
	}
	return l, api.OK, at
}

// numberOf is the number with which a text begins, put together bit by bit.
func numberOf(text string) (uint64, api.Errno, int) {
	end := 0
	for end < len(text) && end < 10 && text[end] >= 128 {
		end++
	}
	switch {
	case end == 10 || end == 9 && len(text) > 9 && text[9] > 1:
		return 0, api.ErrWide, 0
	case end == len(text):
		return 0, api.ErrShort, 0
	case end > 0 && text[end] == 0:
		return 0, api.ErrForm, 0
	}
	bits := ""
	for i := range end + 1 {
		seven := strconv.FormatUint(uint64(text[i])%128+128, 2)
		bits = seven[1:] + bits
	}
	n, _ := strconv.ParseUint(bits, 2, 64) // the tenth seven have one at most
	return n, api.OK, end + 1
}
