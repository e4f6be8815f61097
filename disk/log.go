package disk

import (
	"slices"

	"escrow/api"
)

// Writes: P2.3.
func (d *Disk) Writes() int {
	if d == nil {
		return 0
	}
	return len(d.log)
}

// Log: P2.3.
func (d *Disk) Log() []api.Write {
	if d == nil {
		return nil
	}
	return slices.Clone(d.log)
}

// Cut: P2.5.
func (d *Disk) Cut(n int) (*Disk, api.Errno) {
	switch {
	case d == nil:
		return nil, api.ErrNone
	case n < 0 || n > len(d.log):
		return nil, api.ErrArg
	}
	c := laid(d.first)
	for _, w := range d.log[:n] {
		c.lay(w)
	}
	return c, api.OK
}

// Copy: P2.5.
func (d *Disk) Copy() *Disk {
	if d == nil {
		return nil
	}
	c := *d
	c.first, c.blocks, c.log = slices.Clone(d.first), slices.Clone(d.blocks), slices.Clone(d.log)
	return &c
}
