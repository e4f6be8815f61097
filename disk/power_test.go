package disk_test

import (
	"math"
	"testing"

	"escrow/api"
	"escrow/disk"
)

// P2.2, P2.4: the next n writes are done, and the one behind them turns the power off; it stays off until Start.
func TestArm(t *testing.T) {
	for n := range 5 {
		d := newDisk(t, 5)
		arm(t, d, n, api.OK)
		for at := range n {
			power(t, d, false, n-at)
			write(t, d, at, "x", api.OK)
		}
		power(t, d, false, 0)
		read(t, d, 0, d.Image()[0], api.OK)
		write(t, d, 4, "y", api.ErrDead)
		power(t, d, true, 0)
		write(t, d, 4, "y", api.ErrDead)
		read(t, d, 0, "", api.ErrDead)
		read(t, d, 4, "", api.ErrDead)
		if d.Writes() != n || d.Image()[4] != "" || n > 0 && d.Image()[n-1] != "x" {
			t.Errorf("armed with %d: %v", n, d.Log())
		}
		d.Start()
		power(t, d, false, -1)
		read(t, d, 4, "", api.OK)
		for range n + 2 {
			write(t, d, 4, "y", api.OK)
		}
		read(t, d, 4, "y", api.OK)
		power(t, d, false, -1)
	}
}

// P2.4: a number below -1 is refused, and the arming stays as it was; -1 ends it; Start ends it, of a disk that is on, too.
func TestArmAnew(t *testing.T) {
	d := newDisk(t, 1)
	power(t, d, false, -1)
	arm(t, d, math.MaxInt, api.OK)
	power(t, d, false, math.MaxInt)
	write(t, d, 0, "a", api.OK)
	power(t, d, false, math.MaxInt-1)
	arm(t, d, 2, api.OK)
	for _, n := range []int{-2, -3, math.MinInt} {
		arm(t, d, n, api.ErrArg)
		power(t, d, false, 2)
	}
	arm(t, d, 0, api.OK)
	power(t, d, false, 0)
	arm(t, d, -1, api.OK)
	power(t, d, false, -1)
	arm(t, d, -2, api.ErrArg)
	power(t, d, false, -1)
	write(t, d, 0, "b", api.OK)
	arm(t, d, 0, api.OK)
	d.Start()
	power(t, d, false, -1)
	write(t, d, 0, "c", api.OK)
}

// P2.4: arming doesn't turn the power on, and a write that finds the power off takes none of those that are left.
func TestArmWhileOff(t *testing.T) {
	d := newDisk(t, 1)
	arm(t, d, 0, api.OK)
	write(t, d, 0, "a", api.ErrDead)
	arm(t, d, 2, api.OK)
	power(t, d, true, 2)
	write(t, d, 0, "a", api.ErrDead)
	read(t, d, 0, "", api.ErrDead)
	power(t, d, true, 2)
	arm(t, d, -1, api.OK)
	power(t, d, true, -1)
	write(t, d, 0, "a", api.ErrDead)
	arm(t, d, -2, api.ErrArg)
	power(t, d, true, -1)
	arm(t, d, 3, api.OK)
	d.Start()
	power(t, d, false, -1)
	image(t, d, "")
	logged(t, d)
}

// P2.2, P2.4: a write that is refused with ErrArg or ErrLong counts as none.
func TestRefusedCountAsNone(t *testing.T) {
	d := newDisk(t, 2)
	arm(t, d, 1, api.OK)
	write(t, d, 2, "x", api.ErrArg)
	write(t, d, -1, "x", api.ErrArg)
	write(t, d, 0, full()+"f", api.ErrLong)
	power(t, d, false, 1)
	write(t, d, 0, "a", api.OK)
	write(t, d, 2, "x", api.ErrArg)
	write(t, d, 0, full()+"f", api.ErrLong)
	power(t, d, false, 0)
	write(t, d, 1, "b", api.ErrDead)
	image(t, d, "a", "")
}

// P2.3, P2.5, P2.6: what is asked of a disk whose power is off: all but Read and Write answer as if it was on.
func TestOff(t *testing.T) {
	d := loaded(t, "a", "b")
	write(t, d, 1, "c", api.OK)
	arm(t, d, 0, api.OK)
	write(t, d, 0, "z", api.ErrDead)
	image(t, d, "a", "c")
	logged(t, d, api.Write{At: 1, Block: "c"})
	if c, why := d.Cut(1); why != api.OK || !disk.Same(c, d) {
		t.Errorf("Cut of a disk whose power is off: error %d", why)
	}
	if _, why := d.Cut(2); why != api.ErrArg {
		t.Errorf("Cut behind the log: error %d", why)
	}
	power(t, d, true, 0)
}

// The chapter's examples, in their order.
func TestExamples(t *testing.T) {
	d := newDisk(t, 2)
	write(t, d, 0, "a", api.OK)
	arm(t, d, 1, api.OK)
	write(t, d, 1, "b", api.OK)
	write(t, d, 0, "c", api.ErrDead)
	power(t, d, true, 0)
	image(t, d, "a", "b")
	read(t, d, 0, "", api.ErrDead)
	d.Start()
	write(t, d, 0, "c", api.OK)
	logged(t, d, api.Write{At: 0, Block: "a"}, api.Write{At: 1, Block: "b"}, api.Write{At: 0, Block: "c"})
	c, why := d.Cut(2)
	if why != api.OK {
		t.Fatalf("Cut(2): error %d", why)
	}
	image(t, c, "a", "b")
	write(t, d, 2, "x", api.ErrArg)
	arm(t, d, -2, api.ErrArg)
	power(t, newDisk(t, 2), false, -1)
}
