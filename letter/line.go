package letter

import (
	"strconv"
	"strings"

	"escrow/api"
)

// line is a line that is read from the left. Behind its first error nothing more is read.
type line struct {
	s   string
	at  int // up to here it is read; with an error, the error's place
	why api.Errno
}

// one reads a byte that must be one of some.
func (r *line) one(of string) byte {
	switch {
	case r.why != api.OK:
	case r.at == len(r.s):
		r.why = api.ErrShort
	case strings.IndexByte(of, r.s[r.at]) < 0:
		r.why = api.ErrArg
	default:
		r.at++
		return r.s[r.at-1]
	}
	return 0
}

// number reads a contract's number, and looks at what stands behind it.
func (r *line) number() uint64 {
	rest := r.s[r.at:]
	behind := strings.TrimLeft(rest, "0123456789")
	digits := rest[:len(rest)-len(behind)]
	n, wrong := strconv.ParseUint(digits, 10, 64)
	switch {
	case r.why != api.OK:
	case rest == "":
		r.why = api.ErrShort
	case wrong != nil, digits[0] == '0' && digits != "0":
		r.why = api.ErrArg
	case behind != "" && behind[0] != ' ':
		r.why = api.ErrArg
		r.at += len(digits)
	default:
		r.at += len(digits)
	}
	return n
}

// text reads a text between its two ". One that is too long is refused at its end, for what is wrong in it comes first.
func (r *line) text() string {
	first := r.at
	r.one(`"`)
	var b []byte
	for r.why == api.OK && !strings.HasPrefix(r.s[r.at:], `"`) {
		b = append(b, r.char())
	}
	r.one(`"`)
	if r.why == api.OK && len(b) > api.MaxData {
		r.why, r.at = api.ErrLong, first
	}
	return string(b)
}

// char reads a byte of a text: as it is, or as an escape, as Print would write it.
func (r *line) char() byte {
	s := r.s[r.at:]
	if unfinished(s) {
		r.why, r.at = api.ErrShort, len(r.s)
		return 0
	}
	c, long := meant(s)
	if spelled(c) != s[:long] {
		r.why = api.ErrArg
		return 0
	}
	r.at += long
	return c
}

// unfinished is whether a line ends ahead of a byte's spelling, or within one.
func unfinished(s string) bool {
	if len(s) == 3 && strings.IndexByte(hexDigits, s[2]) >= 0 {
		s = s[:2]
	}
	return strings.HasPrefix(`\x`, s)
}

// meant is the byte that stands at the front of a text, if it is spelled rightly, and how long its spelling is then.
func meant(s string) (byte, int) {
	switch {
	case s[0] != '\\':
		return s[0], 1
	case s[1] == 'n':
		return '\n', 2
	case s[1] == 'x' && len(s) >= 4:
		n, _ := strconv.ParseUint(s[2:4], 16, 8)
		return byte(n), 4
	}
	return s[1], 2
}

// end refuses what stands behind the last field.
func (r *line) end() {
	if r.why == api.OK && r.at < len(r.s) {
		r.why = api.ErrTail
	}
}
