package journal_test

import (
	"fmt"
	"math"
	"slices"
	"strings"
	"testing"

	"escrow/api"
	"escrow/codec"
	"escrow/disk"
	"escrow/journal"
)

// off turns a disk's power off.
func off(d *disk.Disk) {
	d.Arm(0)
	d.Write(0, "")
}

// P3.2, P3.3: the head of generation 1 and half 0 is written, and nothing else.
func TestFormat(t *testing.T) {
	for _, blocks := range []int{9, 10, 61, 4095, 4096} {
		d := formatted(t, blocks)
		want := make([]string, blocks)
		want[0] = "\x02\x01\x00" + headOf(1, 0)[3:]
		image(t, d, want)
		if d.Writes() != 1 {
			t.Errorf("%d writes", d.Writes())
		}
		holds(t, opened(t, d), 1, (blocks-1)/2)
	}
}

// P3.3: the errors, each ahead of those behind it; what is refused writes nothing.
func TestFormatRefuses(t *testing.T) {
	small, smallOff := loaded(t, []string{"x", "", "", "", "", "", "", ""}), loaded(t, make([]string, 8))
	off(smallOff)
	usedOff, emptyOff := loaded(t, []string{8: "x"}), loaded(t, make([]string, 9))
	off(usedOff)
	off(emptyOff)
	last := loaded(t, make([]string, 9))
	last.Arm(0)
	for name, c := range map[string]struct {
		d   *disk.Disk
		why api.Errno
	}{
		"nil":                {nil, api.ErrNone},
		"small, not empty":   {small, api.ErrArg},
		"small, off":         {smallOff, api.ErrArg},
		"one block":          {loaded(t, make([]string, 1)), api.ErrArg},
		"two blocks":         {loaded(t, make([]string, 2)), api.ErrArg},
		"off, not empty":     {usedOff, api.ErrDead},
		"off":                {emptyOff, api.ErrDead},
		"the last not empty": {loaded(t, []string{8: "x"}), api.ErrThere},
		"the head not empty": {loaded(t, []string{0: "x", 8: ""}), api.ErrThere},
		"one that is over":   {loaded(t, []string{9: "x"}), api.ErrThere},
		"formatted":          {formatted(t, 9), api.ErrThere},
		"the power fails":    {last, api.ErrDead},
	} {
		before := c.d.Image()
		if why := journal.Format(c.d); why != c.why {
			t.Errorf("%s: error %d instead of %d", name, why, c.why)
		}
		if !slices.Equal(c.d.Image(), before) {
			t.Errorf("%s: the disk is another", name)
		}
	}
	if !last.Dead() {
		t.Error("an armed disk was not written to")
	}
}

// P3.4: the errors that stand ahead of all that is read.
func TestOpenRefuses(t *testing.T) {
	small, rot := loaded(t, []string{7: "x"}), loaded(t, []string{0: "x", 8: "x"})
	off(small)
	off(rot)
	noHead := loaded(t, []string{3: "x", 8: ""})
	for name, c := range map[string]struct {
		d   *disk.Disk
		why api.Errno
	}{
		"nil":        {nil, api.ErrNone},
		"small, off": {small, api.ErrArg},
		"small":      {loaded(t, []string{0: headOf(1, 0), 7: ""}), api.ErrArg},
		"one block":  {loaded(t, []string{headOf(1, 0)}), api.ErrArg},
		"off, rot":   {rot, api.ErrDead},
		"empty":      {loaded(t, make([]string, 9)), api.ErrNone},
		"no head":    {noHead, api.ErrNone},
	} {
		if j, why := journal.Open(c.d); j != nil || why != c.why {
			t.Errorf("%s: error %d instead of %d", name, why, c.why)
		}
	}
}

// P3.2, P3.4: a head is Seal of just two numbers, the generation from 1 on, and the half.
func TestHeads(t *testing.T) {
	for _, h := range [][2]uint64{{1, 0}, {1, 1}, {127, 0}, {128, 1}, {math.MaxUint64, 0}, {math.MaxUint64, 1}} {
		holds(t, opened(t, loaded(t, nine(headOf(h[0], h[1]), nil, nil))), h[0], 4)
	}
	sound := headOf(300, 1)
	wrong := []string{
		headOf(0, 0), headOf(0, 1), headOf(1, 2), headOf(1, math.MaxUint64), headOf(1, 1<<32), headOf(1, 1<<63),
		seal(""), seal(nums(1)), seal(nums(1, 0, 0)), seal("\x81\x00\x00"), seal("\x01\x80\x00"),
		nums(1, 0), sound + "\x00", sound + sound, "x",
		seal("\x01" + strings.Repeat("\xff", 9) + "\x02"), strings.Repeat("x", api.MaxBlock),
	}
	for cut := 1; cut < len(sound); cut++ {
		wrong = append(wrong, sound[:cut])
	}
	for i := range len(sound) {
		wrong = append(wrong, sound[:i]+string([]byte{sound[i] ^ 1})+sound[i+1:])
	}
	for _, h := range wrong {
		isRot(t, fmt.Sprintf("head %.40x", h), nine(h, nil, nil))
	}
}

func isRot(t *testing.T, name string, image []string) {
	t.Helper()
	d := loaded(t, image)
	if j, why := journal.Open(d); j != nil || why != api.ErrRot {
		t.Errorf("%s: error %d", name, why)
	}
	if d.Writes() != 0 {
		t.Errorf("%s: Open writes", name)
	}
}

// P3.4: blocks that no journal has left so, in each half, wherever the head's half ends.
func TestRotBlocks(t *testing.T) {
	for _, h := range []uint64{0, 1} {
		for at := 1; at < 9; at++ {
			number := (at - 1) % 4
			current := uint64(at-1)/4 == h
			for name, c := range map[string]struct {
				block string
				rot   bool
			}{
				"no entry":         {"x", true},
				"a head":           {headOf(5, h), true},
				"the next number":  {one(5, number+1, "a"), true},
				"the disk's block": {one(1, number+4, "a"), true},
				"no bytes":         {part(5, number, 0, 1, ""), true},
				"many bytes":       {part(5, number, 0, 2, long(49, "p")), true},
				"generation 0":     {one(0, number, "a"), true},
				"above the head":   {one(6, number, "a"), current},
				"far above":        {one(math.MaxUint64, number, "a"), current},
				"below the head":   {part(4, number, 0, 1, "x"), false},
				"another part":     {part(5, number, 1, 2, "x"), false},
			} {
				l := nine(headOf(5, h), nil, nil)
				l[at] = c.block
				name = fmt.Sprintf("head in half %d, block %d: %s", h, at, name)
				if c.rot {
					isRot(t, name, l)
				} else {
					holds(t, opened(t, loaded(t, l)), 5, 4)
				}
				if t.Failed() {
					t.Fatal(name)
				}
			}
		}
	}
}

// P3.2, P3.4: a block that is left over is not looked at.
func TestLeftOver(t *testing.T) {
	l := append(nine(headOf(1, 0), []string{one(1, 0, "a")}, nil), "x")
	holds(t, opened(t, loaded(t, l)), 1, 3, "a")
}

// P3.4: the records from the half's first block on, up to the first that is not there.
func TestReadRecords(t *testing.T) {
	two := blocksOf(5, 0, long(60, "t"))
	full := slices.Concat(two, blocksOf(5, 2, long(60, "u")))
	a, b := one(5, 0, "a"), one(5, 1, "b")
	c := one(5, 2, "c")
	for name, x := range map[string]struct {
		half    []string
		room    int
		records []string
	}{
		"none":                      {nil, 4, nil},
		"one":                       {[]string{a}, 3, []string{"a"}},
		"an empty record":           {[]string{one(5, 0, ""), b}, 2, []string{"", "b"}},
		"of two parts":              {two, 2, []string{long(60, "t")}},
		"all of the half":           {full, 0, []string{long(60, "t"), long(60, "u")}},
		"a gap":                     {[]string{a, "", c}, 3, []string{"a"}},
		"a gap ahead":               {[]string{"", b, c}, 4, nil},
		"an old one":                {[]string{a, one(4, 1, "b"), c}, 3, []string{"a"}},
		"the last part missing":     {[]string{a, blocksOf(5, 1, long(60, "t"))[0]}, 3, []string{"a"}},
		"the last part old":         {[]string{two[0], blocksOf(4, 0, long(60, "t"))[1], c}, 4, nil},
		"the first part missing":    {[]string{"", two[1], c}, 4, nil},
		"a second part ahead":       {[]string{part(5, 0, 1, 2, "x"), b}, 4, nil},
		"the first part again":      {[]string{two[0], part(5, 1, 0, 2, "x"), c}, 4, nil},
		"other parts":               {[]string{two[0], part(5, 1, 1, 3, "x"), part(5, 2, 2, 3, "x")}, 4, nil},
		"parts out of order":        {[]string{part(5, 0, 0, 3, "x"), part(5, 1, 2, 3, "x"), part(5, 2, 1, 3, "x")}, 4, nil},
		"past the half":             {[]string{a, b, c, part(5, 3, 0, 2, "x")}, 1, []string{"a", "b", "c"}},
		"far past the half":         {[]string{part(5, 0, 0, 22, "x"), part(5, 1, 1, 22, "x")}, 4, nil},
		"written over a torn one":   {[]string{a, part(5, 1, 1, 3, "x"), part(5, 2, 2, 3, "x")}, 3, []string{"a"}},
		"no frame behind the end":   {[]string{a, "", part(5, 2, 0, 1, "x")}, 3, []string{"a"}},
		"short pieces make a frame": {[]string{part(5, 0, 0, 2, seal("ab")[:3]), part(5, 1, 1, 2, seal("ab")[3:])}, 2, []string{"ab"}},
	} {
		for half := range uint64(2) {
			l := nine(headOf(5, 0), x.half, halfOf(4, 3, "old"))
			if half == 1 {
				l = nine(headOf(5, 1), halfOf(4, 7, "new", "torn"), x.half)
			}
			d := loaded(t, l)
			holds(t, opened(t, d), 5, x.room, x.records...)
			if d.Writes() != 0 {
				t.Errorf("Open writes")
			}
			if t.Failed() {
				t.Fatalf("%s, half %d", name, half)
			}
		}
	}
}

// P3.4: a record that is there, whose bytes are not just a frame.
func TestRotRecords(t *testing.T) {
	wrongSum := strings.Replace(seal("abc"), "b", "c", 1)
	for name, half := range map[string][]string{
		"no frame":             {part(5, 0, 0, 1, "x")},
		"a wrong sum":          {part(5, 0, 0, 1, wrongSum)},
		"a short one":          {part(5, 0, 0, 1, seal("abc")[:6])},
		"more behind it":       {part(5, 0, 0, 1, seal("abc")+"\x00")},
		"two":                  {part(5, 0, 0, 1, seal("abc")+seal("abc"))},
		"behind another":       {one(5, 0, "a"), part(5, 1, 0, 1, "x")},
		"parts of two":         {blocksOf(5, 0, long(60, "t"))[0], blocksOf(5, 0, long(60, "u"))[1]},
		"two frames, in parts": {part(5, 0, 0, 2, seal("a")), part(5, 1, 1, 2, seal("a"))},
		"a long form":          {part(5, 0, 0, 1, "\x81\x00"+seal("a")[1:])},
	} {
		for h := range uint64(2) {
			l := nine(headOf(5, h), half, nil)
			if h == 1 {
				l = nine(headOf(5, h), nil, half)
			}
			isRot(t, fmt.Sprintf("%s, half %d", name, h), l)
		}
	}
}

// P3.10: a look is free: nothing is written, not even on a disk that is armed, and it tells the same again.
func TestOpenWritesNothing(t *testing.T) {
	d := loaded(t, nine(headOf(5, 0), halfOf(4, 5, "a", "b"), halfOf(4, 6, "torn")))
	d.Arm(0)
	before := d.Image()
	for range 3 {
		holds(t, opened(t, d), 5, 2, "a", "b")
	}
	image(t, d, before)
	if n, armed := d.Left(); n != 0 || !armed || d.Dead() || d.Writes() != 0 {
		t.Error("Open has written")
	}
}

// standing is the chapter's rule for one record, said of a half's blocks as they are: how many blocks it fills (0: it is not there), and what these hold.
func standing(half []string, from int, generation uint64) (int, string) {
	first, why := journal.GetEntry(half[from])
	if why != api.OK || from+first.Parts > len(half) {
		return 0, ""
	}
	all := ""
	for i := range first.Parts {
		x, _ := journal.GetEntry(half[from+i])
		want := api.Entry{Generation: generation, Number: from + i, Part: i, Parts: first.Parts, Bytes: x.Bytes}
		if x != want {
			return 0, ""
		}
		all += x.Bytes
	}
	return first.Parts, all
}

// P3.4: of halves thrown together from entries of some generations and records, just the records that the rule tells, or ErrRot.
func TestRandomHalves(t *testing.T) {
	r := dice(34)
	rot, most := 0, 0
	for range 20000 {
		half := make([]string, 4)
		for i := range half {
			parts := 1 + r.upTo(3)
			x := []string{"a", long(50, "b"), long(100, "c")}[parts-1]
			pieces := blocksOf(1, i, x)
			at := r.upTo(parts)
			if i > 0 && r.upTo(3) > 0 {
				last, _ := journal.GetEntry(half[i-1])
				at = min(last.Part+1, parts-1)
			}
			piece, _ := journal.GetEntry(pieces[at])
			if r.upTo(30) == 0 {
				piece.Bytes = piece.Bytes[:1]
			}
			half[i] = part(uint64(4+min(r.upTo(8), 1)), i, at, parts, piece.Bytes)
		}
		want, records, at := api.OK, []string(nil), 0
		for at < 4 && want == api.OK {
			n, all := standing(half, at, 5)
			if n == 0 {
				break
			}
			load, long, why := codec.Open([]byte(all))
			if want = api.ErrRot; why == api.OK && long == len(all) {
				want, records, at = api.OK, append(records, string(load)), at+n
			}
		}
		j, why := journal.Open(loaded(t, nine(headOf(5, 0), half, nil)))
		if why != want || why != api.OK && j != nil {
			t.Fatalf("%x: error %d instead of %d", half, why, want)
		}
		if why == api.OK {
			holds(t, j, 5, 4-at, records...)
			most = max(most, len(records))
		} else {
			rot++
		}
		if t.Failed() {
			t.Fatalf("%x", half)
		}
	}
	if rot == 0 || most < 3 {
		t.Errorf("%d rot, at most %d records", rot, most)
	}
}
