package speak

import (
	"strconv"

	"escrow/api"
)

// reader goes through a text from the left; nodes is how many have begun.
type reader struct {
	text  string
	at    int
	nodes int
}

// fault is what a reader gives up with; a type of its own, so that no other panic is taken for it.
type fault struct {
	why api.Errno
	at  int
}

// whole reads a term, behind which nothing stands.
func (r *reader) whole() api.Tree {
	x := r.term(0)
	r.blanks()
	if r.at < len(r.text) {
		panic(fault{api.ErrTail, r.at})
	}
	return x
}

// term reads one that stands inside so many others.
func (r *reader) term(inside int) api.Tree {
	r.blanks()
	x := api.Tree{Kind: kindOf(r.peek())}
	if x.Kind == 0 {
		panic(fault{api.ErrWord, r.at})
	}
	if r.nodes >= api.MaxSize || inside >= api.MaxDepth {
		panic(fault{api.ErrLarge, r.at})
	}
	r.nodes++
	for _, c := range []byte(spellings[x.Kind]) {
		r.part(c, &x, inside)
	}
	return x
}

func (r *reader) part(c byte, x *api.Tree, inside int) {
	switch c {
	case 'F':
		x.From = r.name()
	case 'T':
		x.To = r.other(x.From)
	case 'N':
		x.Num = r.number()
	case 'D':
		x.Text = r.data()
	case 'A', 'B':
		x.Kids = append(x.Kids, r.term(inside+1))
	case ' ':
		r.blanks()
	case ')':
		r.blanks()
		r.expect(c)
	default:
		r.expect(c)
	}
}

func (r *reader) blanks() {
	for r.at < len(r.text) && r.text[r.at] == ' ' {
		r.at++
	}
}

// peek is the next byte, where there has to be one.
func (r *reader) peek() byte {
	if r.at >= len(r.text) {
		panic(fault{api.ErrShort, r.at})
	}
	return r.text[r.at]
}

func (r *reader) expect(c byte) {
	if r.peek() != c {
		panic(fault{api.ErrWord, r.at})
	}
	r.at++
}

func (r *reader) name() int {
	begin := r.at
	n := r.number()
	if n >= api.MaxNames {
		panic(fault{api.ErrName, begin})
	}
	return int(n)
}

// other reads a name that is not this one.
func (r *reader) other(than int) int {
	begin := r.at
	n := r.name()
	if n == than {
		panic(fault{api.ErrName, begin})
	}
	return n
}

func (r *reader) number() uint64 {
	begin := r.at
	if !isDigit(r.peek()) {
		panic(fault{api.ErrWord, begin})
	}
	for r.at < len(r.text) && isDigit(r.text[r.at]) {
		r.at++
	}
	digits := r.text[begin:r.at]
	n, wide := strconv.ParseUint(digits, 10, 64)
	if wide != nil || digits[0] == '0' && len(digits) > 1 {
		panic(fault{api.ErrNumber, begin})
	}
	return n
}

func isDigit(c byte) bool {
	return c >= '0' && c <= '9'
}

// data reads up to the last quote. The length is asked there, so that a byte that may not stand there is told ahead of it.
func (r *reader) data() string {
	begin := r.at
	var b []byte
	for r.peek() != '"' {
		b = append(b, r.dataByte())
	}
	if len(b) > api.MaxData {
		panic(fault{api.ErrLong, begin - 1})
	}
	return string(b)
}

// dataByte reads one of a datum, in whichever way it is written.
func (r *reader) dataByte() byte {
	c := r.peek()
	if isPlain(c) {
		r.at++
		return c
	}
	r.expect('\\')
	return r.behindSlash()
}

func (r *reader) behindSlash() byte {
	c := r.peek()
	if c == '"' || c == '\\' {
		r.at++
		return c
	}
	r.expect('x')
	high := r.hex()
	return high<<4 | r.hex()
}

func (r *reader) hex() byte {
	c := r.peek()
	var n byte
	switch {
	case isDigit(c):
		n = c - '0'
	case c >= 'a' && c <= 'f':
		n = c - 'a' + 10
	case c >= 'A' && c <= 'F':
		n = c - 'A' + 10
	default:
		panic(fault{api.ErrWord, r.at})
	}
	r.at++
	return n
}
