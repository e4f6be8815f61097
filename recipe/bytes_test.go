package recipe_test

import (
	"bytes"
	"encoding/binary"
	"math"
	"slices"
	"strings"
	"testing"

	"escrow/api"
	"escrow/recipe"
)

const (
	widest = "\xff\xff\xff\xff\xff\xff\xff\xff\xff\x01" // 2^64 - 1
	half   = "\xff\xff\xff\xff\xff\xff\xff\xff\x7f"     // 2^63 - 1
	round  = "\x80\x80\x80\x80\x80\x80\x80\x80\x80\x01" // 2^63
)

// laid are operations, and their bytes.
func laid() map[string][]api.Op {
	x200 := strings.Repeat("x", 200)
	return map[string][]api.Op{
		"\x00":                                                              nil,
		"\x01\x00\x00\x00\x00\x00":                                          {{}},
		"\x01\x04\x04\x06\x00\x00":                                          {{Code: api.OpPair, A: 2, B: 3}},
		"\x01\x0b\x01\x03\x05\x01a":                                         {{Code: api.OpFake, A: -1, B: -2, Num: 5, Text: "a"}},
		"\x01\xac\x02\xd8\x04\xd7\x04\xac\x02\x02ab":                        {{Code: 300, A: 300, B: -300, Num: 300, Text: "ab"}},
		"\x01" + half + widest[:9] + "\x01\x00\x00\x00":                     {{Code: math.MaxInt, A: math.MinInt64}},
		"\x01\x00\xfe" + widest[1:] + "\x00\x00\x00":                        {{A: math.MaxInt64}},
		"\x01\x00\x00" + widest + "\x00\x00":                                {{B: math.MinInt64}},
		"\x01\x00\x00\xfe" + widest[1:] + widest + "\x00":                   {{B: math.MaxInt64, Num: 1<<64 - 1}},
		"\x01\x00\x00\x00" + round + "\x03\x00\xff\x80":                     {{Num: 1 << 63, Text: "\x00\xff\x80"}},
		"\x01\x03\x00\x00\x00\xc8\x01" + x200:                               {{Code: api.OpData, Text: x200}},
		"\x02\x01\x02\x00\x00\x00\x05\x00\x00\x00\x00":                      {{Code: api.OpName, A: 1}, {Code: api.OpHash}},
		"\x03\x02\x00\x00\x07\x00\x0c\x02\x03\x04\x01z\x02\x00\x00\x00\x00": {{Code: 2, Num: 7}, {Code: 12, A: 1, B: -2, Num: 4, Text: "z"}, {Code: 2}},
	}
}

// P9.5: bytes by hand, there and back.
func TestPutAndGet(t *testing.T) {
	for text, l := range laid() {
		if b, why := recipe.Put(l); string(b) != text || why != api.OK {
			t.Errorf("Put of %v: %x, error %d instead of %x", l, b, why, text)
		}
		if got, ok := recipe.Get([]byte(text)); !ok || !slices.Equal(got, l) {
			t.Errorf("Get of %x: %v, %t instead of %v", text, got, ok, l)
		}
	}
	if b, why := recipe.Put([]api.Op{}); string(b) != "\x00" || why != api.OK {
		t.Errorf("of no operations: %x, error %d", b, why)
	}
}

// P9.5: too many operations; a Code below 0; the first of these counts.
func TestPutRefuses(t *testing.T) {
	for _, long := range []int{api.MaxOps + 1, api.MaxOps + 2, 100000} {
		for _, code := range []int{0, -1} {
			l := make([]api.Op, long)
			l[0].Code, l[long-1].Code = code, code
			if b, why := recipe.Put(l); len(b) != 0 || why != api.ErrMany {
				t.Errorf("of %d: %x, error %d", long, b, why)
			}
		}
	}
	for _, code := range []int{-1, -2, -300, math.MinInt32, math.MinInt, math.MinInt + 1} {
		for _, at := range []int{0, 1, 128, api.MaxOps - 1} {
			l := make([]api.Op, api.MaxOps)
			l[at].Code = code
			if b, why := recipe.Put(l); len(b) != 0 || why != api.ErrArg {
				t.Errorf("of the code %d at %d: %x, error %d", code, at, b, why)
			}
		}
	}
}

// P9.5, P9.9: as many operations as may be, and long texts.
func TestPutMost(t *testing.T) {
	d := dice(7)
	for _, long := range []int{127, 128, api.MaxOps - 1, api.MaxOps} {
		var l []api.Op
		for i := range long {
			l = append(l, api.Op{Code: i, A: i - 128, B: 128 - i, Num: uint64(i) << 55, Text: strings.Repeat("\xe9", i)})
		}
		l[d.upTo(long)].Text = strings.Repeat("long", 25000)
		b, why := recipe.Put(l)
		got, ok := recipe.Get(b)
		if why != api.OK || !ok || !slices.Equal(got, l) {
			t.Errorf("%d operations: error %d, %t, %d operations", long, why, ok, len(got))
		}
	}
}

// plainGet reads operations by the library's numbers.
func plainGet(b []byte) ([]api.Op, bool) {
	right := true
	num := func() uint64 {
		n, long := binary.Uvarint(b)
		if long <= 0 || !bytes.Equal(binary.AppendUvarint(nil, n), b[:max(long, 0)]) {
			right, b = false, nil
			return 0
		}
		b = b[long:]
		return n
	}
	whole := func() int {
		n := num()
		return int(int64(n>>1) ^ -int64(n&1))
	}
	var l []api.Op
	long := num()
	for i := uint64(0); i < long && right; i++ {
		code := num()
		o := api.Op{Code: int(code), A: whole(), B: whole(), Num: num()}
		text := num()
		if code > math.MaxInt || text > uint64(len(b)) {
			right = false
			break
		}
		o.Text, b = string(b[:text]), b[text:]
		l = append(l, o)
	}
	if !right || len(b) > 0 || long > 256 {
		return nil, false
	}
	return l, true
}

// reads fails if Get of bytes tells otherwise than plainGet, or takes what Put does not lay.
func reads(t *testing.T, b []byte) bool {
	t.Helper()
	want, right := plainGet(b)
	got, ok := recipe.Get(b)
	if ok != right || !slices.Equal(got, want) {
		t.Fatalf("%x: %v, %t instead of %v, %t", b, got, ok, want, right)
	}
	if again, why := recipe.Put(got); ok && (!bytes.Equal(again, b) || why != api.OK) {
		t.Fatalf("%x: %x, error %d", b, again, why)
	}
	return ok
}

// P9.5, P9.9: bytes of no operations, one fault each.
func TestGetWrong(t *testing.T) {
	one := "\x00\x00\x00\x00\x00"
	for _, text := range []string{
		"", "\x01", "\x80", "\x80\x00", "\x00\x00", "\x81\x00" + one, "\x02" + one, "\x00" + one, "\x01" + one + one,
		"\x01\x80\x00\x00\x00\x00\x00", "\x01\x00\x80\x00\x00\x00\x00", "\x01\x00\x00\x80\x00\x00\x00", "\x01\x00\x00\x00\x80\x00\x00", "\x01\x00\x00\x00\x00\x80\x00",
		"\x01" + round + "\x00\x00\x00\x00", "\x01" + widest + "\x00\x00\x00\x00", "\x01\x01" + widest[1:] + "\x00\x00\x00\x00",
		"\x01\x00\x00\x00\x00\x01", "\x01\x00\x00\x00\x00\x02a", "\x01\x00\x00\x00\x00\x00a", "\x01\x00\x00\x00\x00\x01ab", "\x01\x00\x00\x00\x00\x81\x00a",
		"\x01\x00\x00\x00\x00" + widest, "\x01\x00\x00\x00\x00" + round, "\x01\x00\x00\x00\x00" + half, "\x01\x00\x00\x00\x00\x80\x80\x80\x80\x10",
		"\x01" + widest[:9] + "\x02\x00\x00\x00\x00", "\x01\x00" + widest[:9] + "\x02\x00\x00\x00", "\x01\x00\x00\x00" + widest[:9] + "\x02\x00", "\x01\x00\x00\x00" + widest[:9] + "\x81\x00\x00",
		widest, widest + one, half + one, round + one, "\x81\x80\x80\x80\x10" + one, "\x81\x02", "\x81\x02" + one,
		"\x80\x02" + strings.Repeat(one, 255), "\x81\x02" + strings.Repeat(one, 257), "\x81\x02" + strings.Repeat(one, 256), "\x80\x02" + strings.Repeat(one, 257),
		"\x82\x02" + strings.Repeat(one, 258), "\x80\x04" + strings.Repeat(one, 512), "\xff\x01" + strings.Repeat(one, 256),
	} {
		if l, ok := recipe.Get([]byte(text)); ok || len(l) != 0 {
			t.Errorf("%x: %v, %t", text, l, ok)
		}
		reads(t, []byte(text))
	}
	if l, ok := recipe.Get([]byte("\x80\x02" + strings.Repeat(one, 256))); !ok || len(l) != 256 {
		t.Errorf("%d operations, %t", len(l), ok)
	}
}

// P9.5, P9.9: of right bytes: each beginning, more behind them, each byte another one.
func TestGetTurned(t *testing.T) {
	for text := range laid() {
		for i := range len(text) {
			if _, ok := recipe.Get([]byte(text[:i])); ok {
				t.Errorf("%x is taken", text[:i])
			}
		}
		for c := range 256 {
			if _, ok := recipe.Get([]byte(text + string([]byte{byte(c)}))); ok {
				t.Errorf("%x and %x behind it is taken", text, c)
			}
			for i := range len(text) {
				b := []byte(text)
				b[i] = byte(c)
				reads(t, b)
			}
		}
	}
}

// P9.5, P9.9: all short texts of few bytes.
func TestGetShort(t *testing.T) {
	taken := 0
	var grow func(b []byte)
	grow = func(b []byte) {
		if reads(t, b) {
			taken++
		}
		if len(b) == 8 {
			return
		}
		for _, c := range []byte{0, 1, 2, 0x80, 0xff} {
			if len(b) == 0 && c == 0xff { // so many operations there cannot be
				continue
			}
			grow(append(b, c))
		}
	}
	grow(make([]byte, 0, 8))
	if taken < 100 {
		t.Errorf("just %d are taken", taken)
	}
}

// P9.9: operations that look like chance, there and back; unlike ones have unlike bytes.
func TestThereAndBack(t *testing.T) {
	d := dice(8)
	edge := func() int { return strange(1 << d.upTo(62))[d.upTo(11)] }
	seen := map[string][]api.Op{}
	for range 5000 {
		var l []api.Op
		for range d.upTo(5) {
			o := api.Op{Code: edge() & math.MaxInt, A: edge(), B: edge(), Num: uint64(edge()), Text: strings.Repeat("\x80", d.upTo(140))}
			if d.upTo(2) == 0 {
				o = api.Op{Code: d.upTo(12), A: d.upTo(3), B: d.upTo(3), Num: uint64(d.upTo(3)), Text: "\x00\x01"[:d.upTo(3)]}
			}
			l = append(l, o)
		}
		b, why := recipe.Put(l)
		got, ok := recipe.Get(b)
		if why != api.OK || !ok || !slices.Equal(got, l) {
			t.Fatalf("%v: error %d, %v, %t", l, why, got, ok)
		}
		if other, there := seen[string(b)]; there && !slices.Equal(other, l) {
			t.Fatalf("%x: %v and %v", b, l, other)
		}
		seen[string(b)] = l
		reads(t, b)
	}
}

// P9.5, rule 3: what is handed in stays as it is, and what is answered is in memory of its own.
func TestBytesApart(t *testing.T) {
	l := []api.Op{{Code: 1, A: 2, Text: "abc"}, {Code: 5}}
	want, _ := recipe.Put(l)
	for range 2 {
		untouched(t, l, func(l []api.Op) {
			b, _ := recipe.Put(l)
			if !bytes.Equal(b, want) {
				t.Fatalf("%x instead of %x", b, want)
			}
			b = b[:cap(b)]
			for i := range b {
				b[i] = 0xff
			}
		})
		room := append(bytes.Clone(want), "spare"...)
		before := bytes.Clone(room)
		got, ok := recipe.Get(room[:len(want)])
		if !ok || !bytes.Equal(room, before) {
			t.Fatalf("%x is %x", before, room)
		}
		clear(room)
		if !slices.Equal(got, l) {
			t.Fatalf("%v instead of %v", got, l)
		}
		got = got[:cap(got)]
		for i := range got {
			got[i] = api.Op{Code: 9}
		}
	}
}
