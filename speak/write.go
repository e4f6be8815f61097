package speak

import (
	"strconv"

	"escrow/api"
)

const hexDigits = "0123456789abcdef"

// put lays the text of a pool's tree behind b; the zero Tree, of no term, has none.
func put(b []byte, x api.Tree) []byte {
	for _, c := range []byte(spellings[x.Kind]) {
		b = putPart(b, c, x)
	}
	return b
}

func putPart(b []byte, c byte, x api.Tree) []byte {
	switch c {
	case 'F':
		return strconv.AppendInt(b, int64(x.From), 10)
	case 'T':
		return strconv.AppendInt(b, int64(x.To), 10)
	case 'N':
		return strconv.AppendUint(b, x.Num, 10)
	case 'D':
		return putData(b, x.Text)
	case 'A':
		return put(b, x.Kids[0])
	case 'B':
		return put(b, x.Kids[1])
	}
	return append(b, c)
}

func putData(b []byte, s string) []byte {
	for _, c := range []byte(s) {
		switch {
		case isPlain(c):
			b = append(b, c)
		case c == '"' || c == '\\':
			b = append(b, '\\', c)
		default:
			b = append(b, '\\', 'x', hexDigits[c>>4], hexDigits[c&15])
		}
	}
	return b
}
