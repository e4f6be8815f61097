package disk_test

import (
	"math"
	"slices"
	"strings"
	"testing"

	"escrow/api"
	"escrow/disk"
)

// found is one that Each goes over.
type found struct {
	at    int
	block string
}

func newDisk(t *testing.T, blocks int) *disk.Disk {
	t.Helper()
	d, why := disk.New(blocks)
	if d == nil || why != api.OK {
		t.Fatalf("New(%d): error %d", blocks, why)
	}
	return d
}

func loaded(t *testing.T, image ...string) *disk.Disk {
	t.Helper()
	d, why := disk.Load(image)
	if d == nil || why != api.OK {
		t.Fatalf("Load of %d blocks: error %d", len(image), why)
	}
	return d
}

func write(t *testing.T, d *disk.Disk, at int, block string, want api.Errno) {
	t.Helper()
	if why := d.Write(at, block); why != want {
		t.Errorf("Write(%d, %d bytes): error %d instead of %d", at, len(block), why, want)
	}
}

func arm(t *testing.T, d *disk.Disk, n int, want api.Errno) {
	t.Helper()
	if why := d.Arm(n); why != want {
		t.Errorf("Arm(%d): error %d instead of %d", n, why, want)
	}
}

func read(t *testing.T, d *disk.Disk, at int, block string, want api.Errno) {
	t.Helper()
	if got, why := d.Read(at); got != block || why != want {
		t.Errorf("Read(%d): %q, error %d instead of %q, error %d", at, got, why, block, want)
	}
}

func image(t *testing.T, d *disk.Disk, want ...string) {
	t.Helper()
	if got := d.Image(); !slices.Equal(got, want) || d.Blocks() != len(want) {
		t.Errorf("image %q of %d blocks instead of %q", got, d.Blocks(), want)
	}
}

func logged(t *testing.T, d *disk.Disk, want ...api.Write) {
	t.Helper()
	if got := d.Log(); !slices.Equal(got, want) || d.Writes() != len(want) {
		t.Errorf("log %v of %d writes instead of %v", got, d.Writes(), want)
	}
}

// power fails if the disk's power and arming are not these; left is -1 where it ought not to be armed.
func power(t *testing.T, d *disk.Disk, dead bool, left int) {
	t.Helper()
	n, armed := d.Left()
	if d.Dead() != dead || armed != (left >= 0) || n != max(left, 0) {
		t.Errorf("dead %v, left %d, %v instead of dead %v, left %d", d.Dead(), n, armed, dead, left)
	}
}

func each(d *disk.Disk) []found {
	var l []found
	for at, block := range d.Each() {
		l = append(l, found{at, block})
	}
	return l
}

// full is the longest block that may be.
func full() string {
	return strings.Repeat("f", api.MaxBlock)
}

// P2.1: so many empty blocks, no log, the power on, not armed.
func TestNew(t *testing.T) {
	for _, n := range []int{1, 2, 61, api.MaxBlocks} {
		d := newDisk(t, n)
		image(t, d, make([]string, n)...)
		logged(t, d)
		power(t, d, false, -1)
		read(t, d, n-1, "", api.OK)
		write(t, d, n-1, "x", api.OK)
	}
	for _, n := range []int{0, -1, api.MaxBlocks + 1, math.MinInt, math.MaxInt} {
		if d, why := disk.New(n); d != nil || why != api.ErrArg {
			t.Errorf("New(%d): error %d", n, why)
		}
	}
}

// P2.1: the blocks of an image, no log, the power on, not armed.
func TestLoad(t *testing.T) {
	for _, l := range [][]string{{"a"}, {""}, {"", "b", "", full()}, slices.Repeat([]string{"z"}, api.MaxBlocks)} {
		d := loaded(t, l...)
		image(t, d, l...)
		logged(t, d)
		power(t, d, false, -1)
	}
}

// P2.1: ErrArg stands ahead of ErrLong.
func TestLoadRefuses(t *testing.T) {
	many := make([]string, api.MaxBlocks+1)
	manyLong := slices.Clone(many)
	manyLong[7] = full() + "f"
	for name, c := range map[string]struct {
		image []string
		why   api.Errno
	}{
		"nil":           {nil, api.ErrArg},
		"none":          {[]string{}, api.ErrArg},
		"many":          {many, api.ErrArg},
		"many and long": {manyLong, api.ErrArg},
		"long":          {[]string{full() + "f"}, api.ErrLong},
		"the last long": {[]string{"a", "", full() + "f"}, api.ErrLong},
	} {
		if d, why := disk.Load(c.image); d != nil || why != c.why {
			t.Errorf("%s: error %d instead of %d", name, why, c.why)
		}
	}
}

// P2.1: the image that was handed in is neither kept nor changed, its spare room neither.
func TestLoadKeepsNothing(t *testing.T) {
	l := []string{"a", "b", "spare"}
	d := loaded(t, l[:2]...)
	write(t, d, 0, "c", api.OK)
	write(t, d, 1, "d", api.OK)
	if !slices.Equal(l, []string{"a", "b", "spare"}) {
		t.Errorf("what was loaded has become %q", l)
	}
	l[0], l[1] = "x", "y"
	image(t, d, "c", "d")
	c, _ := d.Cut(0)
	image(t, c, "a", "b")
}

// P2.2: a write is read, stands in the log, and hurts no other block; one that changes nothing is a write too.
func TestWriteRead(t *testing.T) {
	d := newDisk(t, 3)
	write(t, d, 2, "two", api.OK)
	write(t, d, 0, full(), api.OK)
	write(t, d, 2, "zwei", api.OK)
	write(t, d, 2, "zwei", api.OK)
	write(t, d, 0, "", api.OK)
	for at, block := range []string{"", "", "zwei"} {
		read(t, d, at, block, api.OK)
	}
	logged(t, d, api.Write{At: 2, Block: "two"}, api.Write{At: 0, Block: full()}, api.Write{At: 2, Block: "zwei"}, api.Write{At: 2, Block: "zwei"}, api.Write{At: 0, Block: ""})
	power(t, d, false, -1)
}

// P2.2: bytes that are no text in any code stand as they are.
func TestWriteAnyBytes(t *testing.T) {
	d := newDisk(t, 1)
	write(t, d, 0, "\x00\xff\xfe\n\x80", api.OK)
	read(t, d, 0, "\x00\xff\xfe\n\x80", api.OK)
}

// P2.2: the errors, each ahead of those behind it, with the power on, off, and about to fail; the refused leave all as it was.
func TestWriteReadRefuse(t *testing.T) {
	long := full() + "f"
	for name, made := range map[string]func(d *disk.Disk){
		"on":   func(d *disk.Disk) {},
		"left": func(d *disk.Disk) { d.Arm(1) },
		"last": func(d *disk.Disk) { d.Arm(0) },
		"off":  func(d *disk.Disk) { d.Arm(0); d.Write(0, "") },
	} {
		d := loaded(t, "a", "b")
		made(d)
		dead := d.Dead()
		left, armed := d.Left()
		for _, at := range []int{-1, 2, 3, math.MinInt, math.MaxInt} {
			write(t, d, at, "x", api.ErrArg)
			write(t, d, at, long, api.ErrArg)
			read(t, d, at, "", api.ErrArg)
		}
		write(t, d, 0, long, api.ErrLong)
		write(t, d, 1, long+long, api.ErrLong)
		if n, still := d.Left(); n != left || still != armed || d.Dead() != dead {
			t.Errorf("%s: a refused write changes the power", name)
		}
		image(t, d, "a", "b")
		logged(t, d)
	}
}

// P2.3: Image and Log are new memory each time, spare room too.
func TestAnswersAreNew(t *testing.T) {
	d := newDisk(t, 2)
	for range 5 {
		write(t, d, 0, "a", api.OK)
	}
	a, l := d.Image(), d.Log()
	for i := range a[:cap(a)] {
		a[:cap(a)][i] = "spoilt"
	}
	for i := range l[:cap(l)] {
		l[:cap(l)][i] = api.Write{At: 1, Block: "spoilt"}
	}
	want := slices.Repeat([]api.Write{{At: 0, Block: "a"}}, 5)
	image(t, d, "a", "")
	logged(t, d, want...)
	write(t, d, 1, "b", api.OK)
	logged(t, d, append(want, api.Write{At: 1, Block: "b"})...)
	c, _ := d.Cut(5)
	image(t, c, "a", "")
}

// P2.6: blocks that are not empty, by rising numbers, with the power off too.
func TestEach(t *testing.T) {
	d := newDisk(t, 5)
	if l := each(d); len(l) != 0 {
		t.Errorf("an empty disk has %v", l)
	}
	write(t, d, 4, "e", api.OK)
	write(t, d, 0, "a", api.OK)
	write(t, d, 2, "c", api.OK)
	write(t, d, 1, "b", api.OK)
	write(t, d, 1, "", api.OK)
	want := []found{{0, "a"}, {2, "c"}, {4, "e"}}
	if l := each(d); !slices.Equal(l, want) {
		t.Errorf("%v instead of %v", l, want)
	}
	d.Arm(0)
	write(t, d, 0, "x", api.ErrDead)
	if l := each(d); !slices.Equal(l, want) {
		t.Errorf("power off: %v instead of %v", l, want)
	}
	if l := each(loaded(t, "", "y", "")); !slices.Equal(l, []found{{1, "y"}}) {
		t.Errorf("a loaded disk: %v", l)
	}
}

// P2.6: what is gone over is as it was when Each was called, also while one writes; it may be left, gone over again, nested.
func TestEachAgain(t *testing.T) {
	d := loaded(t, "a", "", "c", "d")
	all := d.Each()
	write(t, d, 0, "", api.OK)
	write(t, d, 1, "b", api.OK)
	count := 0
	for at := range all {
		count++
		if at == 2 {
			break
		}
	}
	if count != 2 {
		t.Errorf("left behind %d blocks instead of 2", count)
	}
	var pairs []string
	for at, outer := range all {
		write(t, d, at, "new", api.OK)
		for _, inner := range all {
			pairs = append(pairs, outer+inner)
		}
	}
	if got := strings.Join(pairs, " "); got != "aa ac ad ca cc cd da dc dd" {
		t.Errorf("nested: %s", got)
	}
	image(t, d, "new", "b", "new", "new")
}

// P2.6: as many blocks, and the same; log, power and arming have no part.
func TestSame(t *testing.T) {
	d := loaded(t, "a", "b")
	written := newDisk(t, 2)
	for at, block := range []string{"a", "b"} {
		write(t, written, at, "first", api.OK)
		write(t, written, at, block, api.OK)
	}
	written.Arm(0)
	write(t, written, 0, "z", api.ErrDead)
	for name, c := range map[string]struct {
		a, b *disk.Disk
		want bool
	}{
		"itself":     {d, d, true},
		"written":    {d, written, true},
		"one other":  {d, loaded(t, "a", "c"), false},
		"moved":      {d, loaded(t, "b", "a"), false},
		"one more":   {d, loaded(t, "a", "b", ""), false},
		"one fewer":  {d, loaded(t, "a"), false},
		"both nil":   {nil, nil, true},
		"one nil":    {nil, d, false},
		"empty, nil": {newDisk(t, 1), nil, false},
	} {
		if disk.Same(c.a, c.b) != c.want || disk.Same(c.b, c.a) != c.want {
			t.Errorf("%s: not %v", name, c.want)
		}
	}
}

// P2.7: on nil, whatever the arguments.
func TestNilDisk(t *testing.T) {
	var d *disk.Disk
	for _, n := range []int{0, 1, -2, math.MinInt, math.MaxInt} {
		write(t, d, n, "", api.ErrNone)
		write(t, d, n, full()+"f", api.ErrNone)
		read(t, d, n, "", api.ErrNone)
		arm(t, d, n, api.ErrNone)
		if c, why := d.Cut(n); c != nil || why != api.ErrNone {
			t.Errorf("Cut(%d): error %d", n, why)
		}
	}
	d.Start()
	image(t, d)
	logged(t, d)
	power(t, d, false, -1)
	if d.Copy() != nil {
		t.Error("a copy of nil")
	}
	if d.Each() == nil || len(each(d)) != 0 {
		t.Error("Each on nil")
	}
}
