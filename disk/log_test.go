package disk_test

import (
	"math"
	"slices"
	"strconv"
	"testing"

	"escrow/api"
	"escrow/disk"
)

// dice is a row of numbers that looks like chance, the same each time.
type dice uint64

func (d *dice) upTo(n int) int {
	*d = *d*6364136223846793005 + 1442695040888963407
	return int(uint64(*d) >> 33 % uint64(n))
}

// moments is a disk, told by a list of all that it ever was: its image behind each number of writes.
type moments struct {
	was  [][]string
	log  []api.Write
	dead bool
	left int
}

func begun(image []string) *moments {
	return &moments{was: [][]string{slices.Clone(image)}, left: -1}
}

func (m *moments) now() []string {
	return m.was[len(m.log)]
}

// write is the chapter's rule for Write.
func (m *moments) write(at int, block string) api.Errno {
	switch {
	case at < 0 || at >= len(m.now()):
		return api.ErrArg
	case len(block) > api.MaxBlock:
		return api.ErrLong
	case m.dead:
		return api.ErrDead
	case m.left == 0:
		m.dead = true
		return api.ErrDead
	case m.left > 0:
		m.left--
	}
	next := slices.Clone(m.now())
	next[at] = block
	m.was, m.log = append(m.was, next), append(m.log, api.Write{At: at, Block: block})
	return api.OK
}

// cut is the disk as it was behind n writes.
func (m *moments) cut(n int) *moments {
	return &moments{was: m.was[: n+1 : n+1], log: m.log[:n:n], left: -1}
}

func (m *moments) copied() *moments {
	c := *m
	c.was, c.log = slices.Clone(m.was), slices.Clone(m.log)
	return &c
}

// hold fails if the disk can be told from what it ought to be.
func (m *moments) hold(t *testing.T, d *disk.Disk) {
	t.Helper()
	image(t, d, m.now()...)
	logged(t, d, m.log...)
	power(t, d, m.dead, m.left)
	for at, block := range m.now() {
		if m.dead {
			read(t, d, at, "", api.ErrDead)
		} else {
			read(t, d, at, block, api.OK)
		}
	}
	if t.Failed() {
		t.FailNow()
	}
}

// randomWrite does one write on both, now and then one that is refused.
func randomWrite(t *testing.T, r *dice, d *disk.Disk, m *moments) {
	t.Helper()
	at, block := r.upTo(d.Blocks()+2)-1, strconv.Itoa(r.upTo(100))
	switch r.upTo(12) {
	case 0:
		block = full() + "f"
	case 1:
		block = ""
	case 2:
		block = full()
	}
	write(t, d, at, block, m.write(at, block))
}

// randomDisk is a disk that begins with some blocks, behind some writes that are done.
func randomDisk(t *testing.T, r *dice, writes int) (*disk.Disk, *moments) {
	t.Helper()
	l := make([]string, 1+r.upTo(6))
	for i := range l {
		l[i] = strconv.Itoa(r.upTo(3))
	}
	d, m := loaded(t, l...), begun(l)
	for len(m.log) < writes {
		randomWrite(t, r, d, m)
	}
	m.hold(t, d)
	return d, m
}

// P2.1 to P2.5: whatever is done in whatever order, a disk and its cuts and copies answer as the chapter's rules, and none is seen on another.
func TestRandomRuns(t *testing.T) {
	r := dice(1)
	for range 300 {
		d, m := randomDisk(t, &r, r.upTo(4))
		asideD, asideM := d.Copy(), m.copied()
		for range 60 {
			switch r.upTo(12) {
			case 0:
				n := r.upTo(6) - 1
				arm(t, d, n, api.OK)
				m.left = n
			case 1:
				arm(t, d, -2-r.upTo(3), api.ErrArg)
			case 2:
				d.Start()
				m.dead, m.left = false, -1
			case 3:
				asideD, asideM = d.Copy(), m.copied()
			case 4:
				n := r.upTo(len(m.log) + 1)
				c, why := d.Cut(n)
				if why != api.OK {
					t.Fatalf("Cut(%d) of %d: error %d", n, len(m.log), why)
				}
				asideD, asideM = c, m.cut(n)
			case 5:
				d, m, asideD, asideM = asideD, asideM, d, m
			default:
				randomWrite(t, &r, d, m)
			}
			m.hold(t, d)
			asideM.hold(t, asideD)
		}
	}
}

// P2.5: the disk as it was behind each number of writes, its power on, not armed, whatever this one's is.
func TestCut(t *testing.T) {
	d := loaded(t, "a", "b")
	write(t, d, 0, "c", api.OK)
	write(t, d, 0, "d", api.OK)
	write(t, d, 1, "", api.OK)
	arm(t, d, 0, api.OK)
	write(t, d, 1, "e", api.ErrDead)
	for n, want := range [][]string{{"a", "b"}, {"c", "b"}, {"d", "b"}, {"d", ""}} {
		c, why := d.Cut(n)
		if why != api.OK {
			t.Fatalf("Cut(%d): error %d", n, why)
		}
		image(t, c, want...)
		logged(t, c, d.Log()[:n]...)
		power(t, c, false, -1)
	}
	for _, n := range []int{-1, 4, math.MinInt, math.MaxInt} {
		if c, why := d.Cut(n); c != nil || why != api.ErrArg {
			t.Errorf("Cut(%d): error %d", n, why)
		}
	}
	power(t, d, true, 0)
}

// P2.5: a copy is like the disk in all, and what is done with the one is not seen on the other.
func TestCopy(t *testing.T) {
	d := loaded(t, "a", "b")
	for range 3 {
		write(t, d, 0, "c", api.OK)
	}
	arm(t, d, 1, api.OK)
	c := d.Copy()
	image(t, c, "c", "b")
	logged(t, c, d.Log()...)
	power(t, c, false, 1)
	write(t, c, 1, "on the copy", api.OK)
	write(t, c, 1, "on the copy", api.ErrDead)
	power(t, c, true, 0)
	power(t, d, false, 1)
	write(t, d, 0, "on the disk", api.OK)
	image(t, d, "on the disk", "b")
	image(t, c, "c", "on the copy")
	if c.Log()[3].Block != "on the copy" || d.Log()[3].Block != "on the disk" {
		t.Error("the logs are one")
	}
	off := c.Copy()
	power(t, off, true, 0)
	off.Start()
	write(t, off, 0, "", api.OK)
	power(t, c, true, 0)
	image(t, c, "c", "on the copy")
	begin, why := off.Cut(0)
	if why != api.OK {
		t.Fatalf("Cut(0) of a copy: error %d", why)
	}
	image(t, begin, "a", "b")
}

// P2.5: what is done with a cut is not seen on the disk, nor on another cut, nor the other way round.
func TestCutApart(t *testing.T) {
	d := loaded(t, "a")
	for _, block := range []string{"b", "c", "d", "e"} {
		write(t, d, 0, block, api.OK)
	}
	one, _ := d.Cut(2)
	two, _ := d.Cut(2)
	write(t, one, 0, "one", api.OK)
	arm(t, one, 0, api.OK)
	write(t, d, 0, "disk", api.OK)
	image(t, one, "one")
	image(t, two, "c")
	image(t, d, "disk")
	logged(t, two, api.Write{At: 0, Block: "b"}, api.Write{At: 0, Block: "c"})
	power(t, two, false, -1)
	power(t, d, false, -1)
	if l := d.Log(); l[2].Block != "d" || l[4].Block != "disk" {
		t.Errorf("the disk's log: %v", l)
	}
	again, _ := d.Cut(3)
	image(t, again, "d")
}

// P2.8: the log, laid on the blocks that were there at first, makes the image; the cut behind all writes is the Same.
func TestPlayedAgain(t *testing.T) {
	r := dice(8)
	for range 100 {
		d, m := randomDisk(t, &r, r.upTo(30))
		first, why := d.Cut(0)
		if why != api.OK || !slices.Equal(first.Image(), m.was[0]) {
			t.Fatalf("Cut(0): error %d", why)
		}
		played := first.Image()
		for _, w := range d.Log() {
			played[w.At] = w.Block
		}
		image(t, d, played...)
		whole, why := d.Cut(d.Writes())
		if why != api.OK || !disk.Same(whole, d) {
			t.Fatalf("Cut of all: error %d", why)
		}
	}
}

// P2.9: a cut of a cut is a cut of the disk, blocks and log.
func TestCutAndCut(t *testing.T) {
	r := dice(9)
	for range 20 {
		d, _ := randomDisk(t, &r, r.upTo(12))
		for n := range d.Writes() + 1 {
			long, why := d.Cut(n)
			if why != api.OK {
				t.Fatalf("Cut(%d): error %d", n, why)
			}
			for m := range n + 1 {
				want, _ := d.Cut(m)
				got, why := long.Cut(m)
				if why != api.OK || !disk.Same(got, want) || !slices.Equal(got.Log(), want.Log()) {
					t.Fatalf("Cut(%d) of Cut(%d): error %d", m, n, why)
				}
			}
			if _, why := long.Cut(n + 1); why != api.ErrArg {
				t.Fatalf("Cut(%d) of Cut(%d): error %d", n+1, n, why)
			}
		}
	}
}

// P2.10: armed with n, a list of writes leaves just the first n of those that are not refused.
func TestArmed(t *testing.T) {
	r := dice(10)
	for range 60 {
		blocks := 1 + r.upTo(5)
		var list []api.Write
		for range r.upTo(15) {
			list = append(list, api.Write{At: r.upTo(blocks+2) - 1, Block: []string{"", "x", "y", full(), full() + "f"}[r.upTo(5)]})
		}
		for n := range len(list) + 2 {
			armed, plain := newDisk(t, blocks), newDisk(t, blocks)
			arm(t, armed, n, api.OK)
			for _, w := range list {
				armed.Write(w.At, w.Block)
				if plain.Writes() < n {
					plain.Write(w.At, w.Block)
				}
			}
			if !disk.Same(armed, plain) || !slices.Equal(armed.Log(), plain.Log()) {
				t.Fatalf("armed with %d: %v instead of %v", n, armed.Log(), plain.Log())
			}
		}
	}
}
