package recipe

import (
	"bytes"

	"escrow/api"
	"escrow/codec"
)

// Put: P9.5.
func Put(l []api.Op) ([]byte, api.Errno) {
	if len(l) > api.MaxOps {
		return nil, api.ErrMany
	}
	b := codec.PutNum(nil, uint64(len(l)))
	for _, o := range l {
		if o.Code < 0 {
			return nil, api.ErrArg
		}
		b = append(b, codec.PutNum(nil, uint64(o.Code))...)
		b = append(b, codec.PutInt(nil, int64(o.A))...)
		b = append(b, codec.PutInt(nil, int64(o.B))...)
		b = append(b, codec.PutNum(nil, o.Num)...)
		b = append(b, codec.PutText(nil, o.Text)...)
	}
	return b, api.OK
}

// Get: P9.5. It reads whatever stands there, and holds what Put lays of that against the bytes: so it takes no others.
func Get(b []byte) ([]api.Op, bool) {
	r := codec.New(b)
	long := min(r.Num(), api.MaxOps)
	var l []api.Op
	for range long {
		l = append(l, api.Op{
			Code: int(r.Num()),
			A:    int(r.Int()),
			B:    int(r.Int()),
			Num:  r.Num(),
			Text: r.Text(len(b)),
		})
	}
	again, why := Put(l)
	if why != api.OK || !bytes.Equal(again, b) {
		return nil, false
	}
	return l, true
}
