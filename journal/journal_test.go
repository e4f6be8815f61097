package journal_test

import (
	"math"
	"slices"
	"testing"

	"escrow/api"
	"escrow/journal"
)

// P3.2, P3.5: records stand one behind the other, part by part, a block each, at all lengths where one more is needed.
func TestAppend(t *testing.T) {
	d := formatted(t, 143)
	j := opened(t, d)
	var records []string
	room := 71
	for i, n := range []int{1, 0, 42, 43, 44, 90, 91, 92, 127, 128, 138, 1023, 1024, 43} {
		r := long(n, string(rune('a'+i)))
		records = append(records, r)
		appended(t, j, r, api.OK)
		room -= len(blocksOf(1, 0, r))
		holds(t, j, 1, room, records...)
		want := slices.Concat([]string{headOf(1, 0)}, halfOf(71, 1, records...), make([]string, 71))
		image(t, d, want)
		holds(t, opened(t, d), 1, room, records...)
	}
	if d.Writes() != 1+71-room {
		t.Errorf("%d writes", d.Writes())
	}
}

// P3.5: the errors, ErrLong ahead of ErrRoom; what is refused changes nothing, and stops nothing.
func TestAppendRefuses(t *testing.T) {
	d := formatted(t, 9)
	j := opened(t, d)
	appended(t, j, long(1025, "x"), api.ErrLong)
	appended(t, j, long(5000, "x"), api.ErrLong)
	appended(t, j, long(1024, "x"), api.ErrRoom)
	appended(t, j, long(188, "x"), api.ErrRoom)
	holds(t, j, 1, 4)
	appended(t, j, long(138, "x"), api.OK)
	appended(t, j, long(44, "x"), api.ErrRoom)
	appended(t, j, long(43, "y"), api.OK)
	appended(t, j, "", api.ErrRoom)
	appended(t, j, long(1025, "x"), api.ErrLong)
	holds(t, j, 1, 0, long(138, "x"), long(43, "y"))
	if d.Writes() != 5 {
		t.Errorf("%d writes", d.Writes())
	}
	holds(t, opened(t, d), 1, 0, long(138, "x"), long(43, "y"))
}

// P3.4, P3.5: what an Append has left that came to no end is written over, also where that has more parts.
func TestAppendOverTorn(t *testing.T) {
	torn := blocksOf(1, 1, long(100, "t"))
	d := loaded(t, nine(headOf(1, 0), []string{one(1, 0, "a"), torn[0], torn[1]}, nil))
	j := opened(t, d)
	appended(t, j, "b", api.OK)
	image(t, d, nine(headOf(1, 0), []string{one(1, 0, "a"), one(1, 1, "b"), torn[1]}, nil))
	holds(t, opened(t, d), 1, 2, "a", "b")
	appended(t, j, "c", api.OK)
	holds(t, opened(t, d), 1, 1, "a", "b", "c")
}

// P3.6: the records are written into the other half, with a new generation, and then the head; the old half stays as it is.
func TestRewrite(t *testing.T) {
	d := formatted(t, 9)
	j := opened(t, d)
	appended(t, j, "a", api.OK)
	appended(t, j, "b", api.OK)
	rewritten(t, j, api.OK, "c", long(60, "d"))
	holds(t, j, 2, 1, "c", long(60, "d"))
	image(t, d, nine(headOf(2, 1), halfOf(4, 1, "a", "b"), halfOf(4, 2, "c", long(60, "d"))))
	holds(t, opened(t, d), 2, 1, "c", long(60, "d"))
	appended(t, j, "e", api.OK)
	rewritten(t, j, api.OK, long(100, "f"))
	holds(t, j, 3, 1, long(100, "f"))
	image(t, d, nine(headOf(3, 0), halfOf(4, 3, long(100, "f")), halfOf(4, 2, "c", long(60, "d"), "e")))
	rewritten(t, j, api.OK)
	holds(t, j, 4, 4)
	holds(t, opened(t, d), 4, 4)
	rewritten(t, j, api.OK, "g")
	image(t, d, nine(headOf(5, 0), []string{one(5, 0, "g"), blocksOf(3, 0, long(100, "f"))[1], blocksOf(3, 0, long(100, "f"))[2]}, halfOf(4, 2, "c", long(60, "d"), "e")))
	holds(t, opened(t, d), 5, 3, "g")
}

// P3.6: the writes of a Rewrite, in their order: the head is the last.
func TestRewriteOrder(t *testing.T) {
	d := formatted(t, 9)
	rewritten(t, opened(t, d), api.OK, long(60, "a"), "b")
	want := append(blocksOf(2, 0, long(60, "a")), blocksOf(2, 2, "b")...)
	for i, w := range d.Log()[1:] {
		if i < 3 && (w.At != 5+i || w.Block != want[i]) || i == 3 && (w.At != 0 || w.Block != headOf(2, 1)) || i > 3 {
			t.Errorf("write %d: %d, %x", i, w.At, w.Block)
		}
	}
}

// P3.6: the errors, each ahead of those behind it; what is refused changes nothing, and stops nothing.
func TestRewriteRefuses(t *testing.T) {
	d := loaded(t, nine(headOf(math.MaxUint64, 0), []string{one(math.MaxUint64, 0, "a")}, nil))
	j := opened(t, d)
	rewritten(t, j, api.ErrLong, "a", "b", "c", "d", long(1025, "e"))
	rewritten(t, j, api.ErrLong, long(1025, "e"))
	rewritten(t, j, api.ErrRoom, "a", "b", "c", "d", "")
	rewritten(t, j, api.ErrRoom, long(60, "a"), "b", long(60, "c"))
	rewritten(t, j, api.ErrRoom, long(1024, "a"))
	rewritten(t, j, api.ErrFull, "a", "b", "c", "d")
	rewritten(t, j, api.ErrFull)
	holds(t, j, math.MaxUint64, 3, "a")
	appended(t, j, "b", api.OK)
	holds(t, opened(t, d), math.MaxUint64, 2, "a", "b")
	if d.Writes() != 1 {
		t.Errorf("%d writes", d.Writes())
	}
}

// P3.6: a list that fills the half, whatever room the old one had.
func TestRewriteFills(t *testing.T) {
	d := formatted(t, 9)
	j := opened(t, d)
	for _, r := range []string{"a", "b", "c", "d"} {
		appended(t, j, r, api.OK)
	}
	rewritten(t, j, api.OK, "a", "b", "c", "d")
	holds(t, j, 2, 0, "a", "b", "c", "d")
	rewritten(t, j, api.OK, long(187-5, "x"))
	holds(t, opened(t, d), 3, 0, long(182, "x"))
}

// P3.6: the new generation is above all on the disk, wherever they stand, not just above the head's.
func TestRewriteGeneration(t *testing.T) {
	for name, c := range map[string]struct {
		first, second []string
		want          uint64
	}{
		"of the head":         {nil, nil, 6},
		"of the head's half":  {[]string{"", one(5, 1, "x")}, nil, 6},
		"below the head's":    {[]string{one(4, 0, "x")}, []string{one(3, 0, "x")}, 6},
		"of the other half":   {nil, []string{one(9, 0, "x")}, 10},
		"at its end":          {[]string{one(5, 0, "a")}, []string{one(2, 0, "x"), "", "", one(300, 3, "x")}, 301},
		"the last that is so": {nil, []string{"", one(math.MaxUint64-1, 1, "x")}, math.MaxUint64},
		"none is greater":     {[]string{one(5, 0, "a")}, []string{"", "", one(math.MaxUint64, 2, "x")}, 0},
	} {
		d := loaded(t, nine(headOf(5, 0), c.first, c.second))
		j := opened(t, d)
		before := j.Records()
		if c.want == 0 {
			rewritten(t, j, api.ErrFull, "r")
			holds(t, j, 5, 3, textsOf(before)...)
			continue
		}
		rewritten(t, j, api.OK, "r")
		holds(t, j, c.want, 3, "r")
		if b, _ := d.Read(5); b != one(c.want, 0, "r") {
			t.Errorf("%s: %x", name, b)
		}
		if c.want < math.MaxUint64 {
			rewritten(t, j, api.OK)
			holds(t, opened(t, d), c.want+1, 4)
		} else {
			rewritten(t, j, api.ErrFull)
			holds(t, opened(t, d), c.want, 3, "r")
		}
	}
}

// P3.5, P3.6: at the disk's first error a journal is stopped, for good, whatever it is asked; what it tells is as it was.
func TestStopped(t *testing.T) {
	for name, fail := range map[string]func(j *journal.Journal) api.Errno{
		"Append":  func(j *journal.Journal) api.Errno { return j.Append(make([]byte, 60)) },
		"Rewrite": func(j *journal.Journal) api.Errno { return j.Rewrite([][]byte{{1}}) },
	} {
		for n := range 2 {
			d := formatted(t, 9)
			j := opened(t, d)
			appended(t, j, "a", api.OK)
			d.Arm(n)
			if why := fail(j); why != api.ErrDead || !d.Dead() {
				t.Errorf("%s, %d left: error %d", name, n, why)
			}
			for range 2 {
				holds(t, j, 1, 3, "a")
				for _, r := range []string{"", "b", long(1024, "b"), long(1025, "b")} {
					appended(t, j, r, api.ErrDead)
					rewritten(t, j, api.ErrDead, r)
				}
				rewritten(t, j, api.ErrDead)
				d.Start()
			}
			holds(t, opened(t, d), 1, 3, "a")
			if d.Writes() != 2+n {
				t.Errorf("%s, %d left: %d writes", name, n, d.Writes())
			}
		}
	}
}

// P3.6: a Rewrite of no records fails at its only write, that of the head.
func TestStoppedAtHead(t *testing.T) {
	d := formatted(t, 9)
	j := opened(t, d)
	d.Arm(0)
	rewritten(t, j, api.ErrDead)
	d.Start()
	rewritten(t, j, api.ErrDead)
	holds(t, j, 1, 4)
	if d.Writes() != 1 {
		t.Errorf("%d writes", d.Writes())
	}
}

// P3.7: on nil, whatever the arguments.
func TestNilJournal(t *testing.T) {
	var j *journal.Journal
	for _, r := range []string{"", "a", long(1025, "a")} {
		appended(t, j, r, api.OK)
		rewritten(t, j, api.OK, r)
	}
	rewritten(t, j, api.OK)
	holds(t, j, 0, 0)
}

// P3.5 to P3.7: what is handed in is neither changed nor kept, spare room neither; what is answered is new memory.
func TestJournalInNewMemory(t *testing.T) {
	d := formatted(t, 61)
	j := opened(t, d)
	p := append(make([]byte, 0, 64), "one"...)
	if why := j.Append(p); why != api.OK {
		t.Fatalf("Append: error %d", why)
	}
	if string(p[:64:64]) != "one"+string(make([]byte, 61)) {
		t.Error("Append writes into spare room")
	}
	clear(p)
	holds(t, j, 1, 29, "one")
	spoil(j.Records())
	holds(t, j, 1, 29, "one")
	k := opened(t, d)
	spoil(k.Records())
	holds(t, k, 1, 29, "one")
	l := append(make([][]byte, 0, 8), []byte("two"), []byte("three"))
	if why := j.Rewrite(l); why != api.OK {
		t.Fatalf("Rewrite: error %d", why)
	}
	if !slices.Equal(textsOf(l[:8:8]), []string{"two", "three", "", "", "", "", "", ""}) {
		t.Error("Rewrite writes into the list")
	}
	spoil(l)
	holds(t, j, 2, 28, "two", "three")
	appended(t, j, "four", api.OK)
	spoil(j.Records())
	holds(t, j, 2, 27, "two", "three", "four")
	again := j.Records()
	if spoil(again[:1:1]); string(again[1]) != "three" {
		t.Error("the records share memory with one another")
	}
	holds(t, opened(t, d), 2, 27, "two", "three", "four")
}

// spoil overwrites lists and what they have in spare.
func spoil(l [][]byte) {
	for _, r := range l {
		r = r[:cap(r)]
		for i := range r {
			r[i] = 'X'
		}
	}
	l = l[:cap(l)]
	for i := range l {
		l[i] = []byte("spoilt")
	}
}

// The chapter's examples.
func TestExamples(t *testing.T) {
	d := formatted(t, 9)
	if b, _ := d.Read(0); b[:3] != "\x02\x01\x00" || len(b) != 7 {
		t.Errorf("head %x", b)
	}
	j := opened(t, d)
	appended(t, j, "a", api.OK)
	if b, _ := d.Read(1); b != "\x01\x00\x00\x01"+"\x01a\x30\x43\xd0\xc1" {
		t.Errorf("block %x", b)
	}
	holds(t, j, 1, 3, "a")
	appended(t, j, long(90, "b"), api.OK)
	holds(t, j, 1, 1, "a", long(90, "b"))
	appended(t, j, long(60, "c"), api.ErrRoom)
	cut, _ := d.Cut(3)
	k := opened(t, cut)
	holds(t, k, 1, 3, "a")
	appended(t, k, "c", api.OK)
	holds(t, opened(t, cut), 1, 2, "a", "c")
	rewritten(t, j, api.OK, "a")
	holds(t, j, 2, 3, "a")
	d.Write(3, "x")
	if _, why := journal.Open(d); why != api.ErrRot {
		t.Errorf("a block that is no entry: error %d", why)
	}
}
