package codec_test

import (
	"bytes"
	"hash/crc32"
	"math/rand"
	"testing"

	"escrow/api"
	"escrow/codec"
)

// loads are loads of lengths about each edge, of bytes that look like lengths among them.
func loads() [][]byte {
	random := rand.New(rand.NewSource(1))
	l := [][]byte{{}, {0}, {0x80}, []byte("a"), []byte("123456789"), bytes.Repeat([]byte{0xff}, 60)}
	for _, n := range []int{2, 3, 4, 5, 126, 127, 128, 129, 1024, api.MaxLoad - 1, api.MaxLoad} {
		p := make([]byte, n)
		random.Read(p)
		l = append(l, p)
	}
	return l
}

func seal(t *testing.T, load []byte) []byte {
	t.Helper()
	f, why := codec.Seal(load)
	if why != api.OK {
		t.Fatalf("Seal of %d bytes: %d", len(load), why)
	}
	return f
}

// P1.6: the chapter's sums, and the library's.
func TestSum(t *testing.T) {
	if s := codec.Sum(nil); s != 0 {
		t.Errorf("of no bytes %x", s)
	}
	if s := codec.Sum([]byte("123456789")); s != 0xe3069283 {
		t.Errorf("of 123456789 %x", s)
	}
	table := crc32.MakeTable(crc32.Castagnoli)
	for _, p := range loads() {
		if got, want := codec.Sum(p), crc32.Checksum(p, table); got != want {
			t.Errorf("of %d bytes %x instead of %x", len(p), got, want)
		}
	}
	for c := range 256 {
		if p := []byte{byte(c)}; codec.Sum(p) != crc32.Checksum(p, table) {
			t.Errorf("of the byte %x: %x", c, codec.Sum(p))
		}
	}
}

// P1.7: a frame is the load's length, the load, and its sum, the lowest byte first.
func TestSeal(t *testing.T) {
	if f := seal(t, []byte("a")); !bytes.Equal(f, []byte{0x01, 0x61, 0x30, 0x43, 0xd0, 0xc1}) {
		t.Errorf("of a: %x", f)
	}
	if f := seal(t, nil); !bytes.Equal(f, []byte{0, 0, 0, 0, 0}) {
		t.Errorf("of nothing: %x", f)
	}
	for _, load := range loads() {
		s := codec.Sum(load)
		want := append(codec.PutText(nil, string(load)), byte(s), byte(s>>8), byte(s>>16), byte(s>>24))
		if f := seal(t, load); !bytes.Equal(f, want) {
			t.Errorf("of %d bytes: %x", len(load), f)
		}
	}
	for _, n := range []int{api.MaxLoad + 1, api.MaxLoad + 2, 100000} {
		if f, why := codec.Seal(make([]byte, n)); len(f) != 0 || why != api.ErrLong {
			t.Errorf("of %d bytes: %d bytes and %d", n, len(f), why)
		}
	}
}

// P1.7: the frame with which p begins is opened, whatever stands behind it.
func TestOpen(t *testing.T) {
	for _, load := range loads() {
		f := seal(t, load)
		for _, behind := range []string{"", "\x00", "\x80", "more"} {
			got, long, why := codec.Open(append(bytes.Clone(f), behind...))
			if !bytes.Equal(got, load) || long != len(f) || why != api.OK {
				t.Errorf("of %d bytes: %d, %d, %d", len(load), len(got), long, why)
			}
		}
	}
}

// P1.7: the first of the errors.
func TestOpenRefuses(t *testing.T) {
	of := func(n uint64, long int) string {
		return string(append(codec.PutNum(nil, n), make([]byte, long)...))
	}
	wrong := map[string]api.Errno{
		"\x01a\x30\x43\xd0\xc0":          api.ErrSum,
		"\x01b\x30\x43\xd0\xc1":          api.ErrSum,
		"\x01a\xc1\xd0\x43\x30":          api.ErrSum,
		"\x00\x00\x00\x00\x01":           api.ErrSum,
		"\x01a\x30\x43\xd0":              api.ErrShort,
		"\x01a":                          api.ErrShort,
		"\x01":                           api.ErrShort,
		"\x00\x00\x00\x00":               api.ErrShort,
		"\x00":                           api.ErrShort,
		"\x81\x00a\x30\x43\xd0":          api.ErrForm,
		of(api.MaxLoad, api.MaxLoad+3):   api.ErrShort,
		of(api.MaxLoad, 0):               api.ErrShort,
		of(api.MaxLoad+1, 0):             api.ErrLong,
		of(api.MaxLoad+1, api.MaxLoad+5): api.ErrLong,
		of(1<<63, 9):                     api.ErrLong,
		of(1<<64-1, 9):                   api.ErrLong,
		of(1<<64-4, 9):                   api.ErrLong,
	}
	for s, why := range wrongNums() {
		wrong[s] = why
	}
	for s, want := range wrong {
		load, long, why := codec.Open([]byte(s))
		if len(load) != 0 || long != 0 || why != want {
			t.Errorf("%.20x (%d bytes): %x, %d, %d instead of %d", s, len(s), load, long, why, want)
		}
	}
}

// P1.7, P1.8: what is answered is new memory, and what is handed in stays.
func TestFramesInNewMemory(t *testing.T) {
	load := append(make([]byte, 0, 64), "load"...)
	one, two := seal(t, load), seal(t, load)
	if string(load[:64:64]) != "load"+string(make([]byte, 60)) {
		t.Error("Seal writes into the load's spare room")
	}
	one[1] ^= 0xff
	if string(load) != "load" || two[1] != 'l' {
		t.Error("Seal shares memory")
	}
	p := append(bytes.Clone(two), two...)
	opened, _, _ := codec.Open(p)
	l, _, _ := codec.Frames(p)
	before := bytes.Clone(p)
	for _, x := range [][]byte{opened, l[0]} {
		whole := x[:cap(x)]
		for i := range whole {
			whole[i] = 0xff
		}
	}
	if string(l[1]) != "load" {
		t.Error("the loads share memory with one another")
	}
	if !bytes.Equal(p, before) {
		t.Error("a load shares memory with p")
	}
	again, _, _ := codec.Open(p)
	clear(p)
	if string(again) != "load" || string(l[1]) != "load" {
		t.Error("what becomes of p is seen in a load")
	}
}

// P1.8: all the frames from the beginning, the place behind the last, Open's error there.
func TestFrames(t *testing.T) {
	if l, at, why := codec.Frames(nil); len(l) != 0 || at != 0 || why != api.OK {
		t.Errorf("of nothing: %d, %d, %d", len(l), at, why)
	}
	var p []byte
	for n, load := range loads() {
		p = append(p, seal(t, load)...)
		broken := seal(t, []byte("ab"))
		broken[2] ^= 1
		behind := map[string]api.Errno{"": api.OK, "\x81\x20": api.ErrLong, string(broken): api.ErrSum}
		for s, why := range wrongNums() {
			if s != "" {
				behind[s] = why
			}
		}
		for s, want := range behind {
			l, at, why := codec.Frames(append(bytes.Clone(p), s...))
			if len(l) != n+1 || at != len(p) || why != want {
				t.Fatalf("%d frames and %x: %d, place %d, error %d", n+1, s, len(l), at, why)
			}
			for i, load := range l {
				if !bytes.Equal(load, loads()[i]) {
					t.Fatalf("load %d is another", i)
				}
			}
		}
	}
}

// turned is p with the bits of mask turned, from its bit number at on, counted from the lowest of p's first byte; false if it has no room there.
func turned(p []byte, at int, mask uint32) ([]byte, bool) {
	q := bytes.Clone(p)
	for bit := range 32 {
		if mask>>bit&1 == 0 {
			continue
		}
		place := at + bit
		if place >= len(q)*8 {
			return nil, false
		}
		q[place/8] ^= 1 << (place % 8)
	}
	return q, true
}

// P1.10: bits turned within 32 neighbouring ones of load and sum, at all places.
func TestTurned(t *testing.T) {
	random := rand.New(rand.NewSource(2))
	masks := []uint32{1, 3, 5, 0xff, 0x80000001, 0xffffffff, 0x82f63b78, 0x05ec76f1}
	for range 20 {
		masks = append(masks, random.Uint32()|1)
	}
	for _, load := range loads() {
		if len(load) > 200 {
			continue
		}
		f := seal(t, load)
		begin := len(f) - len(load) - 4
		for at := range (len(load) + 4) * 8 {
			for _, mask := range masks {
				q, ok := turned(f[begin:], at, mask)
				if !ok {
					continue
				}
				got, long, why := codec.Open(append(bytes.Clone(f[:begin]), q...))
				if len(got) != 0 || long != 0 || why != api.ErrSum {
					t.Fatalf("load of %d bytes, mask %x at %d: error %d", len(load), mask, at, why)
				}
			}
		}
	}
}

// P1.11: frames cut at any place: the whole ones, and ErrShort, if a beginning of another is left.
func TestTorn(t *testing.T) {
	var p []byte
	ends := []int{0}
	var all [][]byte
	for _, load := range loads() {
		if len(load) > 200 {
			continue
		}
		all = append(all, load)
		p = append(p, seal(t, load)...)
		ends = append(ends, len(p))
	}
	whole := 0
	for cut := range len(p) + 1 {
		if whole < len(all) && cut == ends[whole+1] {
			whole++
		}
		want := api.ErrShort
		if cut == ends[whole] {
			want = api.OK
		}
		l, at, why := codec.Frames(p[:cut])
		if len(l) != whole || at != ends[whole] || why != want {
			t.Fatalf("cut at %d: %d frames, place %d, error %d", cut, len(l), at, why)
		}
		for i := range l {
			if !bytes.Equal(l[i], all[i]) {
				t.Fatalf("cut at %d: load %d is another", cut, i)
			}
		}
	}
}
