package journal

import (
	"escrow/api"
	"escrow/codec"
)

const (
	maxNumber = api.MaxBlocks - 1
	maxParts  = 22 // as many as a record of api.MaxRecord bytes needs
	sumLong   = 4  // bytes of a frame's sum
)

// PutEntry: P3.1.
func PutEntry(x api.Entry) (string, api.Errno) {
	if !mayStand(x) {
		return "", api.ErrArg
	}
	b := codec.PutNum(nil, x.Generation)
	for _, n := range [...]int{x.Number, x.Part, x.Parts} {
		b = codec.PutNum(b, uint64(n))
	}
	return string(b) + x.Bytes, api.OK
}

// GetEntry: P3.1.
func GetEntry(s string) (api.Entry, api.Errno) {
	r := codec.New([]byte(s))
	x := api.Entry{Generation: r.Num(), Number: small(r), Part: small(r), Parts: small(r)}
	x.Bytes = s[r.At():]
	if why, _ := r.Why(); why != api.OK || !mayStand(x) {
		return api.Entry{}, api.ErrRot
	}
	return x, api.OK
}

// Need: P3.7.
func Need(n int) int {
	if n < 0 || n > api.MaxRecord {
		return 0
	}
	sealed := len(codec.PutNum(nil, uint64(n))) + n + sumLong
	return (sealed + api.MaxPart - 1) / api.MaxPart
}

// partsOf are the pieces of a record's frame; the record has at most api.MaxRecord bytes.
func partsOf(record []byte) []string {
	sealed, _ := codec.Seal(record)
	l := make([]string, 0, Need(len(record)))
	for len(sealed) > 0 {
		long := min(len(sealed), api.MaxPart)
		l = append(l, string(sealed[:long]))
		sealed = sealed[long:]
	}
	return l
}

// small reads a number that is told as an int; api.MaxBlocks stands for all that no entry may have.
func small(r *codec.Reader) int {
	return int(min(r.Num(), api.MaxBlocks))
}

func mayStand(x api.Entry) bool {
	return x.Generation > 0 &&
		x.Number >= 0 && x.Number <= maxNumber &&
		x.Parts >= 1 && x.Parts <= maxParts &&
		x.Part >= 0 && x.Part < x.Parts &&
		len(x.Bytes) >= 1 && len(x.Bytes) <= api.MaxPart
}
