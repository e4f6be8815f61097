package journal_test

import (
	"slices"
	"strings"
	"testing"

	"escrow/api"
	"escrow/codec"
	"escrow/disk"
	"escrow/journal"
)

// dice is a row of numbers that looks like chance, the same each time.
type dice uint64

func (d *dice) upTo(n int) int {
	*d = *d*6364136223846793005 + 1442695040888963407
	return int(uint64(*d) >> 33 % uint64(n))
}

// seal is the frame of a load.
func seal(load string) string {
	b, why := codec.Seal([]byte(load))
	if why != api.OK {
		panic("a load that is too long")
	}
	return string(b)
}

// headOf is the block of a head.
func headOf(generation, half uint64) string {
	return seal(nums(generation, half))
}

// part is the block of an entry.
func part(generation uint64, number, part, parts int, bytes string) string {
	return nums(generation, uint64(number), uint64(part), uint64(parts)) + bytes
}

// one is the block of a record that needs just one.
func one(generation uint64, number int, record string) string {
	return part(generation, number, 0, 1, seal(record))
}

// blocksOf is how a record stands in a half, from a number on.
func blocksOf(generation uint64, from int, record string) []string {
	pieces := slices.Collect(slices.Chunk([]byte(seal(record)), 48))
	var l []string
	for i, p := range pieces {
		l = append(l, part(generation, from+i, i, len(pieces), string(p)))
	}
	return l
}

// halfOf is a half of so many blocks with these records.
func halfOf(blocks int, generation uint64, records ...string) []string {
	var l []string
	for _, r := range records {
		l = append(l, blocksOf(generation, len(l), r)...)
	}
	return append(l, make([]string, blocks-len(l))...)
}

// nine is the image of a disk with halves of four blocks; what is not told of a half is empty.
func nine(head string, first, second []string) []string {
	l := make([]string, 9)
	l[0] = head
	copy(l[1:5], first)
	copy(l[5:9], second)
	return l
}

// long is a record of so many bytes, that tells by which letter it was made.
func long(n int, letter string) string {
	return strings.Repeat(letter, n)
}

func loaded(t *testing.T, image []string) *disk.Disk {
	t.Helper()
	d, why := disk.Load(image)
	if why != api.OK {
		t.Fatalf("Load: error %d", why)
	}
	return d
}

// formatted is a disk of so many blocks with a journal on it that has no records.
func formatted(t *testing.T, blocks int) *disk.Disk {
	t.Helper()
	d := loaded(t, make([]string, blocks))
	if why := journal.Format(d); why != api.OK {
		t.Fatalf("Format of %d blocks: error %d", blocks, why)
	}
	return d
}

func opened(t *testing.T, d *disk.Disk) *journal.Journal {
	t.Helper()
	j, why := journal.Open(d)
	if j == nil || why != api.OK {
		t.Fatalf("Open: error %d", why)
	}
	return j
}

func appended(t *testing.T, j *journal.Journal, record string, want api.Errno) {
	t.Helper()
	if why := j.Append([]byte(record)); why != want {
		t.Errorf("Append of %d bytes: error %d instead of %d", len(record), why, want)
	}
}

func rewritten(t *testing.T, j *journal.Journal, want api.Errno, records ...string) {
	t.Helper()
	if why := j.Rewrite(bytesOf(records)); why != want {
		t.Errorf("Rewrite of %d records: error %d instead of %d", len(records), why, want)
	}
}

// holds fails if the journal does not tell just this.
func holds(t *testing.T, j *journal.Journal, generation uint64, room int, records ...string) {
	t.Helper()
	got := textsOf(j.Records())
	if !slices.Equal(got, records) || j.Len() != len(records) {
		t.Errorf("%d records, Len %d: %.200q instead of %.200q", len(got), j.Len(), got, records)
	}
	if j.Generation() != generation || j.Room() != room {
		t.Errorf("generation %d, room %d instead of generation %d, room %d", j.Generation(), j.Room(), generation, room)
	}
}

func image(t *testing.T, d *disk.Disk, want []string) {
	t.Helper()
	if got := d.Image(); !slices.Equal(got, want) {
		t.Errorf("on the disk %.400q instead of %.400q", got, want)
	}
}

func bytesOf(records []string) [][]byte {
	var l [][]byte
	for _, r := range records {
		l = append(l, []byte(r))
	}
	return l
}

func textsOf(records [][]byte) []string {
	var l []string
	for _, r := range records {
		l = append(l, string(r))
	}
	return l
}
