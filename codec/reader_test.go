package codec_test

import (
	"bytes"
	"encoding/binary"
	"math"
	"slices"
	"strings"
	"testing"

	"escrow/api"
	"escrow/codec"
)

// stand fails if the reader is not at this place, with this error at it.
func stand(t *testing.T, name string, r *codec.Reader, at, left int, why api.Errno, place int) {
	t.Helper()
	if r.At() != at || r.Left() != left {
		t.Errorf("%s: at %d with %d left instead of %d with %d", name, r.At(), r.Left(), at, left)
	}
	if e, p := r.Why(); e != why || p != place {
		t.Errorf("%s: error %d at %d instead of %d at %d", name, e, p, why, place)
	}
}

// wrongNums are bytes that no number begins with, and the error of each.
func wrongNums() map[string]api.Errno {
	nine := strings.Repeat("\xff", 9)
	zeros := strings.Repeat("\x80", 9)
	return map[string]api.Errno{
		"":                    api.ErrShort,
		"\x80":                api.ErrShort,
		"\xff\xff":            api.ErrShort,
		nine:                  api.ErrShort,
		zeros:                 api.ErrShort,
		"\x80\x00":            api.ErrForm,
		"\xff\x00":            api.ErrForm,
		"\x80\x80\x00":        api.ErrForm,
		zeros + "\x00":        api.ErrForm,
		nine + "\x00":         api.ErrForm,
		nine + "\x02":         api.ErrWide,
		zeros + "\x02":        api.ErrWide,
		nine + "\x7f":         api.ErrWide,
		nine + "\x80":         api.ErrWide,
		nine + "\x81":         api.ErrWide,
		nine + "\xff":         api.ErrWide,
		zeros + "\x80\x00":    api.ErrWide,
		zeros + "\x81\x01":    api.ErrWide,
		nine + "\xff\xff\xff": api.ErrWide,
	}
}

// P1.2: a reader has the bytes as they are then, and begins at 0 without an error.
func TestNewKeepsBytes(t *testing.T) {
	p := []byte{5, 1, 'a'}
	r := codec.New(p)
	stand(t, "New", r, 0, 3, api.OK, 0)
	p[0], p[1], p[2] = 0x80, 0x80, 0x80
	if r.Num() != 5 || r.Text(1) != "a" || r.Done() != api.OK {
		t.Error("a reader sees what becomes of p behind New")
	}
	if !bytes.Equal(p, []byte{0x80, 0x80, 0x80}) {
		t.Error("a reader changes p")
	}
	stand(t, "New(nil)", codec.New(nil), 0, 0, api.OK, 0)
	if codec.New(nil).Done() != api.OK {
		t.Error("New(nil) is not done")
	}
}

// P1.2: the first error stays, with its place, and nothing is read or moved any more.
func TestErrorStays(t *testing.T) {
	for name, c := range map[string]struct {
		behind string
		fail   func(r *codec.Reader)
		why    api.Errno
	}{
		"Num, form":    {"\x80\x00\x01a", func(r *codec.Reader) { r.Num() }, api.ErrForm},
		"Int, wide":    {strings.Repeat("\xff", 9) + "\x02\x01a", func(r *codec.Reader) { r.Int() }, api.ErrWide},
		"Num, short":   {"\x80", func(r *codec.Reader) { r.Num() }, api.ErrShort},
		"Text, long":   {"\x02ab\x01a", func(r *codec.Reader) { r.Text(1) }, api.ErrLong},
		"Text, short":  {"\x03ab", func(r *codec.Reader) { r.Text(9) }, api.ErrShort},
		"Text, length": {"\x80\x00\x01a", func(r *codec.Reader) { r.Text(9) }, api.ErrForm},
		"Byte, short":  {"", func(r *codec.Reader) { r.Byte() }, api.ErrShort},
	} {
		r := codec.New([]byte("\x07" + c.behind))
		r.Num()
		c.fail(r)
		stand(t, name, r, 1, len(c.behind), c.why, 1)
		if r.Num() != 0 || r.Int() != 0 || r.Text(1000) != "" || r.Text(-1) != "" || r.Byte() != 0 {
			t.Errorf("%s: something is read behind an error", name)
		}
		if r.Done() != c.why {
			t.Errorf("%s: Done is %d", name, r.Done())
		}
		stand(t, name+", again", r, 1, len(c.behind), c.why, 1)
	}
}

// P1.3: numbers and ints, and the place behind each.
func TestReadNumbers(t *testing.T) {
	for _, n := range nums() {
		p := binary.AppendUvarint([]byte{9}, n)
		r := codec.New(append(p, 0x55))
		r.Byte()
		if got := r.Num(); got != n {
			t.Errorf("Num: %d instead of %d", got, n)
		}
		stand(t, "Num", r, len(p), 1, api.OK, 0)
	}
	for _, n := range ints() {
		p := binary.AppendVarint([]byte{9}, n)
		r := codec.New(append(p, 0x55))
		r.Byte()
		if got := r.Int(); got != n {
			t.Errorf("Int: %d instead of %d", got, n)
		}
		stand(t, "Int", r, len(p), 1, api.OK, 0)
	}
}

// P1.3: bytes that no number begins with; Int, and a text's length (P1.4), have the same errors.
func TestReadWrongNumbers(t *testing.T) {
	for s, why := range wrongNums() {
		for name, read := range map[string]func(r *codec.Reader) bool{
			"Num":        func(r *codec.Reader) bool { return r.Num() == 0 },
			"Int":        func(r *codec.Reader) bool { return r.Int() == 0 },
			"Text":       func(r *codec.Reader) bool { return r.Text(math.MaxInt) == "" },
			"Text below": func(r *codec.Reader) bool { return r.Text(-1) == "" },
		} {
			r := codec.New([]byte("ab" + s))
			r.Byte()
			r.Byte()
			if !read(r) {
				t.Errorf("%s of %x answers something", name, s)
			}
			stand(t, name, r, 2, len(s), why, 2)
		}
	}
}

// refNum is the chapter's rule for a number, written from its end: the value, how many bytes it has, its error.
func refNum(p []byte) (uint64, int, api.Errno) {
	last := slices.IndexFunc(p, func(c byte) bool { return c < 128 })
	if last < 0 {
		last = len(p)
	}
	switch {
	case last > 9 || last == 9 && len(p) > 9 && p[9] > 1:
		return 0, 0, api.ErrWide
	case last == len(p):
		return 0, 0, api.ErrShort
	case last > 0 && p[last] == 0:
		return 0, 0, api.ErrForm
	}
	n := uint64(0)
	for i := last; i >= 0; i-- {
		n = n*128 + uint64(p[i]%128)
	}
	return n, last + 1, api.OK
}

// P1.3, P1.9: all bytes of up to four of some kinds, also behind long beginnings: what a reader takes, Put lays.
func TestReadAllShortBytes(t *testing.T) {
	kinds := []byte{0, 1, 2, 0x7f, 0x80, 0x81, 0xff}
	var rest [][]byte
	for l := [][]byte{{}}; len(l[0]) <= 4; {
		rest = append(rest, l...)
		var longer [][]byte
		for _, p := range l {
			for _, c := range kinds {
				longer = append(longer, append(bytes.Clone(p), c))
			}
		}
		l = longer
	}
	for _, begin := range []string{"", strings.Repeat("\x80", 7), strings.Repeat("\xff", 8)} {
		for _, end := range rest {
			p := append([]byte(begin), end...)
			want, long, why := refNum(p)
			r := codec.New(p)
			n := r.Num()
			if e, at := r.Why(); n != want || r.At() != long || e != why || at != 0 {
				t.Fatalf("%x: %d, error %d at %d, place %d; instead of %d, %d, place %d", p, n, e, at, r.At(), want, why, long)
			}
			if why == api.OK && !bytes.Equal(codec.PutNum(nil, n), p[:long]) {
				t.Fatalf("%x: Put of %d lays something else", p, n)
			}
		}
	}
}

// P1.4: texts, and the place behind each; most is the greatest length that is taken.
func TestReadTexts(t *testing.T) {
	for _, s := range texts() {
		for _, most := range []int{len(s), len(s) + 1, math.MaxInt} {
			p := append(binary.AppendUvarint([]byte{9}, uint64(len(s))), s...)
			r := codec.New(append(p, 0x55))
			r.Byte()
			if got := r.Text(most); got != s {
				t.Errorf("Text(%d) of %d bytes: %d bytes", most, len(s), len(got))
			}
			stand(t, "Text", r, len(p), 1, api.OK, 0)
		}
	}
}

// P1.4: ErrLong ahead of ErrShort, both with the place of the length; every length is above a most below 0.
func TestReadWrongTexts(t *testing.T) {
	huge := string(binary.AppendUvarint(nil, math.MaxUint64))
	for _, c := range []struct {
		s    string
		most int
		why  api.Errno
	}{
		{"\x02ab", 1, api.ErrLong},
		{"\x02a", 1, api.ErrLong},
		{"\x01a", 0, api.ErrLong},
		{"\x00", -1, api.ErrLong},
		{"\x01a", -1, api.ErrLong},
		{"\x00", math.MinInt, api.ErrLong},
		{"\x02a", 2, api.ErrShort},
		{"\x02", 2, api.ErrShort},
		{"\x80\x01" + strings.Repeat("a", 127), 128, api.ErrShort},
		{"\x80\x01" + strings.Repeat("a", 128), 127, api.ErrLong},
		{huge, math.MaxInt, api.ErrLong},
		{huge + "ab", -1, api.ErrLong},
		{string(binary.AppendUvarint(nil, math.MaxInt64)) + "ab", math.MaxInt, api.ErrShort},
		{string(binary.AppendUvarint(nil, math.MaxInt64)) + "ab", math.MaxInt - 1, api.ErrLong},
	} {
		r := codec.New([]byte("\x00" + c.s))
		r.Byte()
		if got := r.Text(c.most); got != "" {
			t.Errorf("Text(%d) of %x: %q", c.most, c.s, got)
		}
		stand(t, "Text", r, 1, len(c.s), c.why, 1)
	}
}

// P1.4: every byte is read as it is, and none behind the last.
func TestReadBytes(t *testing.T) {
	var p []byte
	for c := range 256 {
		p = append(p, byte(c))
	}
	r := codec.New(p)
	for c := range 256 {
		if got := r.Byte(); int(got) != c {
			t.Fatalf("Byte: %d instead of %d", got, c)
		}
		stand(t, "Byte", r, c+1, 255-c, api.OK, 0)
	}
	if r.Done() != api.OK || r.Byte() != 0 {
		t.Error("the end")
	}
	stand(t, "Byte at the end", r, 256, 0, api.ErrShort, 256)
}

// P1.5: ErrTail is no error of the reader: it reads on.
func TestDone(t *testing.T) {
	r := codec.New([]byte{1, 2})
	if r.Done() != api.ErrTail {
		t.Error("two bytes left")
	}
	stand(t, "Done", r, 0, 2, api.OK, 0)
	if r.Num() != 1 || r.Done() != api.ErrTail || r.Num() != 2 || r.Done() != api.OK {
		t.Error("Done stops the reader")
	}
	stand(t, "the end", r, 2, 0, api.OK, 0)
}

// P1.5: on nil.
func TestNilReader(t *testing.T) {
	var r *codec.Reader
	if r.Num() != 0 || r.Int() != 0 || r.Text(5) != "" || r.Byte() != 0 || r.Done() != api.OK {
		t.Error("a nil reader answers something")
	}
	stand(t, "nil", r, 0, 0, api.OK, 0)
}

// P1.9: what is laid one behind the other is read in that order, to its end, and the reader's places are those of what was laid.
func TestThereAndBack(t *testing.T) {
	var b []byte
	for i, n := range nums() {
		b = codec.PutNum(b, n)
		b = codec.PutInt(b, int64(n))
		b = codec.PutInt(b, -int64(n))
		b = codec.PutText(b, texts()[i%len(texts())])
	}
	r := codec.New(b)
	var again []byte
	for i, n := range nums() {
		if r.Num() != n || r.Int() != int64(n) || r.Int() != -int64(n) {
			t.Fatalf("number %d is read otherwise", n)
		}
		s := r.Text(math.MaxInt)
		if s != texts()[i%len(texts())] {
			t.Fatalf("text %d is read otherwise", i)
		}
		again = codec.PutText(codec.PutInt(codec.PutInt(codec.PutNum(again, n), int64(n)), -int64(n)), s)
		if r.At() != len(again) || r.Left() != len(b)-len(again) {
			t.Fatalf("behind number %d at %d instead of %d", n, r.At(), len(again))
		}
	}
	if r.Done() != api.OK || !bytes.Equal(again, b) {
		t.Error("the end")
	}
}
