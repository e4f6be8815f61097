package journal

import (
	"escrow/api"
	"escrow/codec"
	"escrow/disk"
)

// Format: P3.3.
func Format(d *disk.Disk) api.Errno {
	if why := unfit(d); why != api.OK {
		return why
	}
	for range d.Each() {
		return api.ErrThere
	}
	return d.Write(headAt, putHead(head{generation: 1, half: 0}))
}

// Open: P3.4.
func Open(d *disk.Disk) (*Journal, api.Errno) {
	if why := unfit(d); why != api.OK {
		return nil, why
	}
	block, _ := d.Read(headAt)
	if block == "" {
		return nil, api.ErrNone
	}
	h, ok := getHead(block)
	if !ok {
		return nil, api.ErrRot
	}
	found, greatest, why := look(d, h)
	if why != api.OK {
		return nil, why
	}
	records, used, why := read(found, h.generation)
	if why != api.OK {
		return nil, why
	}
	return &Journal{disk: d, head: h, greatest: greatest, used: used, records: records}, api.OK
}

// unfit tells why no journal can be on a disk now; OK, if one can.
func unfit(d *disk.Disk) api.Errno {
	switch {
	case d == nil:
		return api.ErrNone
	case halfLong(d) < api.MinHalf:
		return api.ErrArg
	case d.Dead():
		return api.ErrDead
	}
	return api.OK
}

// look tells the entries of the head's half, each at its number (a zero one where the block is empty), and the greatest generation on the disk.
func look(d *disk.Disk, h head) (found []api.Entry, greatest uint64, why api.Errno) {
	found, greatest = make([]api.Entry, halfLong(d)), h.generation
looking:
	for half := range halves {
		for number, block := range inHalf(d, half) {
			x, rot := GetEntry(block)
			current := half == h.half
			if rot != api.OK || x.Number != number || current && x.Generation > h.generation {
				found, greatest, why = nil, 0, api.ErrRot
				break looking
			}
			greatest = max(greatest, x.Generation)
			if current {
				found[number] = x
			}
		}
	}
	return found, greatest, why
}

// read tells the records that stand at the beginning of what was found, and how many blocks they fill.
func read(found []api.Entry, generation uint64) ([][]byte, int, api.Errno) {
	var records [][]byte
	at := 0
reading:
	for at < len(found) && found[at].Generation == generation {
		parts := found[at].Parts
		if parts > len(found)-at {
			break reading
		}
		sealed, long := make([]byte, parts*api.MaxPart), 0
		for part, x := range found[at : at+parts] {
			if x.Generation != generation || x.Parts != parts || x.Part != part {
				break reading
			}
			long += copy(sealed[long:], x.Bytes)
		}
		record, end, why := codec.Open(sealed[:long])
		if why != api.OK || end != long {
			return nil, 0, api.ErrRot
		}
		records = append(records, record)
		at += parts
	}
	return records, at, api.OK
}
