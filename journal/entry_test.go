package journal_test

import (
	"math"
	"strings"
	"testing"

	"escrow/api"
	"escrow/codec"
	"escrow/journal"
)

// nums are numbers, one behind the other, as chapter 1 lays them.
func nums(l ...uint64) string {
	var b []byte
	for _, n := range l {
		b = codec.PutNum(b, n)
	}
	return string(b)
}

// piece is a part's bytes: so many.
func piece(n int) string {
	return strings.Repeat("p", n)
}

// soundEntries are entries at each edge.
func soundEntries() []api.Entry {
	return []api.Entry{
		{Generation: 1, Number: 0, Part: 0, Parts: 1, Bytes: "\x00"},
		{Generation: 127, Number: 128, Part: 1, Parts: 2, Bytes: "\x80\xff"},
		{Generation: math.MaxUint64, Number: 4095, Part: 21, Parts: 22, Bytes: piece(48)},
		{Generation: 1 << 63, Number: 4094, Part: 0, Parts: 22, Bytes: piece(47)},
		{Generation: 300, Number: 127, Part: 20, Parts: 21, Bytes: "\x01\x00\x00\x01"},
	}
}

// wrongEntries are entries of which one field may not be.
func wrongEntries() []api.Entry {
	sound := api.Entry{Generation: 1, Number: 0, Part: 0, Parts: 1, Bytes: "x"}
	l := []api.Entry{{}, {Number: 3, Part: 0, Parts: 1, Bytes: "x"}}
	for _, n := range []int{-1, 4096, 4097, math.MinInt, math.MaxInt} {
		x := sound
		x.Number = n
		l = append(l, x)
	}
	for _, n := range []int{-1, 0, 23, 24, math.MinInt, math.MaxInt} {
		x := sound
		x.Parts = n
		l = append(l, x)
	}
	for _, n := range []int{-1, 2, 3, 22, math.MinInt, math.MaxInt} {
		x := sound
		x.Part, x.Parts = n, 2
		l = append(l, x)
	}
	for _, n := range []int{0, 49, 50, 1024, 5000} {
		x := sound
		x.Bytes = piece(n)
		l = append(l, x)
	}
	return l
}

// P3.1: an entry's block is its four numbers and its bytes, and it is read back from it.
func TestEntry(t *testing.T) {
	for _, x := range soundEntries() {
		want := nums(x.Generation, uint64(x.Number), uint64(x.Part), uint64(x.Parts)) + x.Bytes
		s, why := journal.PutEntry(x)
		if s != want || why != api.OK {
			t.Errorf("PutEntry(%v): %x, error %d instead of %x", x, s, why, want)
		}
		if back, why := journal.GetEntry(s); back != x || why != api.OK {
			t.Errorf("GetEntry(%x): %v, error %d instead of %v", s, back, why, x)
		}
	}
}

// P3.1: what may not be in an entry is neither laid nor read.
func TestEntryRefuses(t *testing.T) {
	for _, x := range wrongEntries() {
		if s, why := journal.PutEntry(x); s != "" || why != api.ErrArg {
			t.Errorf("PutEntry(%v): %x, error %d", x, s, why)
		}
		s := nums(x.Generation, uint64(x.Number), uint64(x.Part), uint64(x.Parts)) + x.Bytes
		noEntry(t, s)
	}
}

func noEntry(t *testing.T, s string) {
	t.Helper()
	if x, why := journal.GetEntry(s); x != (api.Entry{}) || why != api.ErrRot {
		t.Errorf("GetEntry(%.40x): %v, error %d", s, x, why)
	}
}

// P3.1: a number that ends too early, or is longer than it needs, or too great for an int, makes no entry.
func TestGetEntryRefuses(t *testing.T) {
	sound := nums(300, 200, 1, 2) + "x"
	for cut := range len(sound) {
		noEntry(t, sound[:cut])
	}
	for _, s := range []string{
		"x",
		"\x81\x00\x00\x00\x01x",
		"\x01\x80\x00\x00\x01x",
		"\x01\x00\x80\x00\x01x",
		"\x01\x00\x00\x81\x00x",
		strings.Repeat("\xff", 9) + "\x02\x00\x00\x01x",
		strings.Repeat("\xff", 12),
	} {
		noEntry(t, s)
	}
	for _, n := range []uint64{4096, 1 << 31, 1 << 32, 1<<32 + 1, 1 << 63, 1<<63 + 1, math.MaxUint64} {
		noEntry(t, nums(1, n, 0, 1)+"x")
		noEntry(t, nums(1, 0, n, 2)+"x")
		noEntry(t, nums(1, 0, 0, n)+"x")
		noEntry(t, nums(1, 0, n, n)+"x")
	}
}

// P3.1: of all short texts of some bytes just those are read that PutEntry lays.
func TestEntriesOneBlockEach(t *testing.T) {
	alphabet := "\x00\x01\x02\x16\x17\x80\xff"
	read := 0
	var all func(s string)
	all = func(s string) {
		x, why := journal.GetEntry(s)
		if why == api.OK {
			read++
			if back, _ := journal.PutEntry(x); back != s {
				t.Fatalf("%x is read as %v, which is laid as %x", s, x, back)
			}
		} else if x != (api.Entry{}) || why != api.ErrRot {
			t.Fatalf("%x: %v, error %d", s, x, why)
		}
		if len(s) < 6 {
			for i := range len(alphabet) {
				all(s + alphabet[i:i+1])
			}
		}
	}
	all("")
	if read == 0 {
		t.Error("none is read")
	}
}

// P3.7: a record's frame, cut in pieces of MaxPart bytes; of a length that no record has none.
func TestNeed(t *testing.T) {
	for n := range api.MaxRecord + 1 {
		sealed, why := codec.Seal(make([]byte, n))
		if why != api.OK {
			t.Fatalf("Seal of %d bytes: error %d", n, why)
		}
		want := len(sealed) / 48
		if len(sealed)%48 > 0 {
			want++
		}
		if got := journal.Need(n); got != want {
			t.Errorf("Need(%d): %d instead of %d", n, got, want)
		}
	}
	for n, want := range map[int]int{0: 1, 43: 1, 44: 2, 91: 2, 92: 3, 1024: 22} {
		if got := journal.Need(n); got != want {
			t.Errorf("Need(%d): %d instead of %d", n, got, want)
		}
	}
	for _, n := range []int{-1, 1025, 1026, 4096, math.MinInt, math.MaxInt} {
		if got := journal.Need(n); got != 0 {
			t.Errorf("Need(%d): %d", n, got)
		}
	}
}
