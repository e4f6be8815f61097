package speak

import "escrow/api"

// spellings are what is written, and read, of each kind, so that both ways hold to the same: F and T are the numbers of From and To, N is that of Num, D the bytes of Text, A and B the texts of these; all else stands as it is.
var spellings = [...]string{
	api.KindName: `nF`,
	api.KindNum:  `#N`,
	api.KindData: `"D"`,
	api.KindPair: `(A B)`,
	api.KindHash: `h(A)`,
	api.KindKey:  `kF`,
	api.KindSign: `sF(A)`,
	api.KindProm: `pF>T(A)`,
	api.KindFake: `fF>T(A)`,
}

// kindOf is the kind whose text begins with this byte, or 0.
func kindOf(first byte) int {
	for kind, spelling := range spellings {
		if spelling != "" && spelling[0] == first {
			return kind
		}
	}
	return 0
}

// isPlain is whether a byte of a datum stands in a text as it is.
func isPlain(c byte) bool {
	return c >= 32 && c <= 126 && c != '"' && c != '\\'
}
