package codec

import "escrow/api"

// Reader goes through bytes. A read that is refused leaves it where that read began, so at is the error's place as well.
type Reader struct {
	p   []byte
	at  int
	why api.Errno
}

// fault is what a read panics with; a type of its own, so that no other panic is taken for it.
type fault struct {
	why api.Errno
}

// New: P1.2.
func New(p []byte) *Reader {
	return &Reader{p: fresh(p, 0)}
}

// Num: P1.3.
func (r *Reader) Num() (n uint64) {
	r.read(func() { n = r.num() })
	return n
}

// Int: P1.3.
func (r *Reader) Int() (n int64) {
	r.read(func() { n = unfold(r.num()) })
	return n
}

// Text: P1.4.
func (r *Reader) Text(most int) (s string) {
	r.read(func() { s = r.text(most) })
	return s
}

// Byte: P1.4.
func (r *Reader) Byte() (c byte) {
	r.read(func() { c = r.next() })
	return c
}

// At: P1.5.
func (r *Reader) At() int {
	if r == nil {
		return 0
	}
	return r.at
}

// Left: P1.5.
func (r *Reader) Left() int {
	if r == nil {
		return 0
	}
	return len(r.p) - r.at
}

// Why: P1.5.
func (r *Reader) Why() (api.Errno, int) {
	if r == nil || r.why == api.OK {
		return api.OK, 0
	}
	return r.why, r.at
}

// Done: P1.5.
func (r *Reader) Done() api.Errno {
	why, _ := r.Why()
	if why == api.OK && r.Left() > 0 {
		return api.ErrTail
	}
	return why
}

// read does one read, and recovers its fault: from then on the reader does no other.
func (r *Reader) read(one func()) {
	if r == nil || r.why != api.OK {
		return
	}
	begin := r.at
	defer func() {
		switch x := recover().(type) {
		case nil:
		case fault:
			r.why, r.at = x.why, begin
		default:
			panic(x)
		}
	}()
	one()
}

func (r *Reader) num() uint64 {
	var n uint64
	for i := 0; ; i++ {
		c := r.next()
		if i == maxNum-1 && c > 1 {
			panic(fault{api.ErrWide})
		}
		if i > 0 && c == 0 {
			panic(fault{api.ErrForm})
		}
		n |= uint64(c&127) << (7 * i)
		if c < 128 {
			return n
		}
	}
}

func (r *Reader) text(most int) string {
	long := r.num()
	if most < 0 || long > uint64(most) {
		panic(fault{api.ErrLong})
	}
	if long > uint64(r.Left()) {
		panic(fault{api.ErrShort})
	}
	begin := r.at
	r.at += int(long)
	return string(r.p[begin:r.at])
}

func (r *Reader) next() byte {
	if r.Left() == 0 {
		panic(fault{api.ErrShort})
	}
	c := r.p[r.at]
	r.at++
	return c
}
