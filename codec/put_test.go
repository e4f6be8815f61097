package codec_test

import (
	"bytes"
	"encoding/binary"
	"math"
	"strings"
	"testing"

	"escrow/codec"
)

// nums are numbers at each edge where one more byte is needed, and what lies about them.
func nums() []uint64 {
	l := []uint64{0, 1, 2, 300, math.MaxInt64, math.MaxUint64, math.MaxUint64 - 1}
	for bit := range 64 {
		n := uint64(1) << bit
		l = append(l, n-1, n, n+1)
	}
	return l
}

// ints are both signs of nums, the least int among them.
func ints() []int64 {
	var l []int64
	for _, n := range nums() {
		l = append(l, int64(n), -int64(n))
	}
	return l
}

func texts() []string {
	return []string{"", "a", "ab", "\x00", "\x80\xff", "\u00e9", strings.Repeat("x", 127), strings.Repeat("y", 128), strings.Repeat("z", 16384)}
}

// P1.1: the bytes that the chapter's examples show.
func TestPutExamples(t *testing.T) {
	for _, c := range []struct{ got, want []byte }{
		{codec.PutNum(nil, 0), []byte{0}},
		{codec.PutNum(nil, 127), []byte{0x7f}},
		{codec.PutNum(nil, 128), []byte{0x80, 0x01}},
		{codec.PutNum(nil, 300), []byte{0xac, 0x02}},
		{codec.PutNum(nil, math.MaxUint64), []byte{0xff, 0xff, 0xff, 0xff, 0xff, 0xff, 0xff, 0xff, 0xff, 0x01}},
		{codec.PutInt(nil, 0), []byte{0}},
		{codec.PutInt(nil, -1), []byte{1}},
		{codec.PutInt(nil, 1), []byte{2}},
		{codec.PutInt(nil, -64), []byte{0x7f}},
		{codec.PutInt(nil, 64), []byte{0x80, 0x01}},
		{codec.PutInt(nil, math.MinInt64), []byte{0xff, 0xff, 0xff, 0xff, 0xff, 0xff, 0xff, 0xff, 0xff, 0x01}},
		{codec.PutInt(nil, math.MaxInt64), []byte{0xfe, 0xff, 0xff, 0xff, 0xff, 0xff, 0xff, 0xff, 0xff, 0x01}},
		{codec.PutText(nil, ""), []byte{0}},
		{codec.PutText(nil, "ab"), []byte{2, 'a', 'b'}},
		{codec.PutText([]byte("b"), "ab"), []byte{'b', 2, 'a', 'b'}},
	} {
		if !bytes.Equal(c.got, c.want) {
			t.Errorf("%x instead of %x", c.got, c.want)
		}
	}
}

// P1.1: held against the library's own numbers, which are the same.
func TestPutAgainstLibrary(t *testing.T) {
	for _, n := range nums() {
		if got, want := codec.PutNum([]byte("ahead"), n), binary.AppendUvarint([]byte("ahead"), n); !bytes.Equal(got, want) {
			t.Errorf("PutNum(%d): %x instead of %x", n, got, want)
		}
	}
	for _, n := range ints() {
		if got, want := codec.PutInt([]byte("ahead"), n), binary.AppendVarint([]byte("ahead"), n); !bytes.Equal(got, want) {
			t.Errorf("PutInt(%d): %x instead of %x", n, got, want)
		}
	}
	for _, s := range texts() {
		want := append(binary.AppendUvarint([]byte("ahead"), uint64(len(s))), s...)
		if got := codec.PutText([]byte("ahead"), s); !bytes.Equal(got, want) {
			t.Errorf("PutText of %d bytes: %x", len(s), got)
		}
	}
}

// P1.1: neither b nor its spare room is changed, and no two answers share memory.
func TestPutInNewMemory(t *testing.T) {
	for name, put := range map[string]func(b []byte) []byte{
		"PutNum":  func(b []byte) []byte { return codec.PutNum(b, 300) },
		"PutInt":  func(b []byte) []byte { return codec.PutInt(b, -300) },
		"PutText": func(b []byte) []byte { return codec.PutText(b, "text") },
		"nothing": func(b []byte) []byte { return codec.PutText(b, "") },
	} {
		whole := bytes.Repeat([]byte{0xee}, 64)
		one, two := put(whole[:5]), put(whole[:5])
		if !bytes.Equal(whole, bytes.Repeat([]byte{0xee}, 64)) {
			t.Errorf("%s changes b or its spare room: %x", name, whole)
		}
		want := bytes.Clone(two)
		for i := range one {
			one[i] = 0
		}
		for i, spare := 0, one[len(one):cap(one)]; i < len(spare); i++ {
			spare[i] = 0
		}
		if !bytes.Equal(two, want) || !bytes.Equal(whole, bytes.Repeat([]byte{0xee}, 64)) {
			t.Errorf("%s: answers share memory", name)
		}
	}
}
