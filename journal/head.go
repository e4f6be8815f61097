package journal

import (
	"iter"

	"escrow/api"
	"escrow/codec"
	"escrow/disk"
)

const (
	headAt = 0 // the head's block
	halves = 2
)

// head says which generation counts, and in which half it is.
type head struct {
	generation uint64
	half       int
}

func putHead(h head) string {
	load := codec.PutNum(codec.PutNum(nil, h.generation), uint64(h.half))
	sealed, _ := codec.Seal(load)
	return string(sealed)
}

// getHead reads the block of a head; false, if it is none.
func getHead(s string) (head, bool) {
	load, long, why := codec.Open([]byte(s))
	if why != api.OK || long != len(s) {
		return head{}, false
	}
	r := codec.New(load)
	generation, half := r.Num(), r.Num()
	if r.Done() != api.OK || generation == 0 || half >= halves {
		return head{}, false
	}
	return head{generation, int(half)}, true
}

// halfLong is how many blocks a half of the disk has.
func halfLong(d *disk.Disk) int {
	return (d.Blocks() - 1) / halves
}

// firstOf is the disk's block with which a half begins.
func firstOf(d *disk.Disk, half int) int {
	return headAt + 1 + half*halfLong(d)
}

// inHalf goes over the blocks of a half that are not empty: their numbers in the half, and what they hold.
func inHalf(d *disk.Disk, half int) iter.Seq2[int, string] {
	return func(yield func(int, string) bool) {
		for at, block := range d.Each() {
			number := at - firstOf(d, half)
			if number >= 0 && number < halfLong(d) && !yield(number, block) {
				return
			}
		}
	}
}
