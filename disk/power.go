package disk

import "escrow/api"

// unarmed stands for the number of writes that are left where there is no such number; Arm takes it in this sense too.
const unarmed = -1

// Arm: P2.4.
func (d *Disk) Arm(n int) api.Errno {
	switch {
	case d == nil:
		return api.ErrNone
	case n < unarmed:
		return api.ErrArg
	}
	d.left = n
	return api.OK
}

// Left: P2.4.
func (d *Disk) Left() (int, bool) {
	if d == nil || d.left == unarmed {
		return 0, false
	}
	return d.left, true
}

// Dead: P2.3.
func (d *Disk) Dead() bool {
	return d != nil && d.dead
}

// Start: P2.4.
func (d *Disk) Start() {
	if d == nil {
		return
	}
	d.dead, d.left = false, unarmed
}

// spend takes one of the writes that are left; where none is, the power goes off. It tells whether the write may be done.
func (d *Disk) spend() bool {
	if d.left == 0 {
		d.dead = true
	}
	if d.dead {
		return false
	}
	if d.left != unarmed {
		d.left--
	}
	return true
}
