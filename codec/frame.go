package codec

import "escrow/api"

const (
	sumLong = 4          // bytes of a sum
	sumBits = 0x82f63b78 // what CRC-32C takes away, the lowest power in the highest bit
)

// Sum: P1.6.
func Sum(p []byte) uint32 {
	register := ^uint32(0)
	for _, c := range p {
		register ^= uint32(c)
		for range 8 {
			out := register & 1
			register = register>>1 ^ sumBits*out
		}
	}
	return ^register
}

// Seal: P1.7.
func Seal(load []byte) ([]byte, api.Errno) {
	if len(load) > api.MaxLoad {
		return nil, api.ErrLong
	}
	sum := sumBytes(load)
	return append(PutText(nil, string(load)), sum[:]...), api.OK
}

// Open: P1.7.
func Open(p []byte) ([]byte, int, api.Errno) {
	r := &Reader{p: p} // not New, which copies all of p: Frames would copy what is left once a frame
	long := r.Num()
	why, _ := r.Why()
	switch {
	case why != api.OK:
		return nil, 0, why
	case long > api.MaxLoad:
		return nil, 0, api.ErrLong
	case r.Left() < int(long)+sumLong:
		return nil, 0, api.ErrShort
	}
	begin, end := r.At(), r.At()+int(long)
	load := fresh(p[begin:end], 0)
	if sumBytes(load) != [sumLong]byte(p[end:end+sumLong]) {
		return nil, 0, api.ErrSum
	}
	return load, end + sumLong, api.OK
}

// Frames: P1.8.
func Frames(p []byte) ([][]byte, int, api.Errno) {
	var loads [][]byte
	at := 0
	for at < len(p) {
		load, long, why := Open(p[at:])
		if why != api.OK {
			return loads, at, why
		}
		loads = append(loads, load)
		at += long
	}
	return loads, at, api.OK
}

func sumBytes(load []byte) [sumLong]byte {
	s := Sum(load)
	return [sumLong]byte{byte(s), byte(s >> 8), byte(s >> 16), byte(s >> 24)}
}
