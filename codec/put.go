// Package codec is layer 1: see shared/doc/01-codec.md.
package codec

// maxNum is how many bytes the longest number has: 64 bits, seven in each.
const maxNum = 10

// PutNum: P1.1.
func PutNum(b []byte, n uint64) []byte {
	return addNum(fresh(b, maxNum), n)
}

// PutInt: P1.1.
func PutInt(b []byte, n int64) []byte {
	return PutNum(b, fold(n))
}

// PutText: P1.1.
func PutText(b []byte, s string) []byte {
	return append(addNum(fresh(b, maxNum+len(s)), uint64(len(s))), s...)
}

// fresh copies b: what is handed in, its spare room too, must stay as it is.
func fresh(b []byte, room int) []byte {
	return append(make([]byte, 0, len(b)+room), b...)
}

func addNum(b []byte, n uint64) []byte {
	for n >= 128 {
		b = append(b, byte(n)|128)
		n >>= 7
	}
	return append(b, byte(n))
}

// fold takes the smaller of two numbers first, then doubles it, so that no int runs over.
func fold(n int64) uint64 {
	if n < 0 {
		return 2*uint64(-(n+1)) + 1
	}
	return 2 * uint64(n)
}

func unfold(u uint64) int64 {
	if u%2 == 1 {
		return -int64(u/2) - 1
	}
	return int64(u / 2)
}
