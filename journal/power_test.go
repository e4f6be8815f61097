package journal_test

import (
	"slices"
	"testing"

	"escrow/api"
	"escrow/codec"
	"escrow/disk"
	"escrow/journal"
)

// moment is what a disk tells from so many raw writes on.
type moment struct {
	writes     int
	generation uint64
	records    []string
}

// past is all the moments of a disk, in order.
type past []moment

func (p past) at(writes int) moment {
	m := p[0]
	for _, x := range p {
		if x.writes <= writes {
			m = x
		}
	}
	return m
}

// greatestOn is the greatest generation on a disk: its head's and its entries'.
func greatestOn(d *disk.Disk) uint64 {
	var g uint64
	for at, block := range d.Each() {
		if at > 0 {
			x, _ := journal.GetEntry(block)
			g = max(g, x.Generation)
		} else {
			load, _, _ := codec.Open([]byte(block))
			g = max(g, codec.New(load).Num())
		}
	}
	return g
}

// randomRecord is a record that is mostly short.
func randomRecord(r *dice) string {
	n := []int{0, 1, 43, 44, 91, 92, 150, 300, 1024}[r.upTo(9)]
	if r.upTo(3) > 0 {
		n = r.upTo(50)
	}
	return long(n, string(rune('a'+r.upTo(26))))
}

// step does something with a journal, and tells what its records and its generation are if it comes to its end.
func step(r *dice, d *disk.Disk, j *journal.Journal) (api.Errno, []string, uint64) {
	now := textsOf(j.Records())
	if r.upTo(4) > 0 {
		x := randomRecord(r)
		return j.Append([]byte(x)), append(now, x), j.Generation()
	}
	var l []string
	for range r.upTo(4) {
		l = append(l, randomRecord(r))
	}
	if r.upTo(2) == 0 {
		l = now[r.upTo(len(now)+1):]
	}
	next := greatestOn(d) + 1
	return j.Rewrite(bytesOf(l)), l, next
}

// goesOn does steps with a journal till one fails by the power, or there were enough, and writes the moments down.
func goesOn(t *testing.T, r *dice, d *disk.Disk, j *journal.Journal, p past) past {
	t.Helper()
	for range 12 {
		now := p[len(p)-1]
		writes := d.Writes()
		why, records, generation := step(r, d, j)
		switch why {
		case api.OK:
			p = append(p, moment{d.Writes(), generation, records})
		case api.ErrDead:
			holds(t, j, now.generation, j.Room(), now.records...)
			return p
		default:
			if why != api.ErrRoom || d.Writes() != writes {
				t.Fatalf("error %d, %d writes", why, d.Writes()-writes)
			}
		}
		last := p[len(p)-1]
		holds(t, j, last.generation, roomFor(d, last.records), last.records...)
	}
	return p
}

func roomFor(d *disk.Disk, records []string) int {
	room := (d.Blocks() - 1) / 2
	for _, r := range records {
		room -= journal.Need(len(r))
	}
	return room
}

// holdCuts opens the disk as it was behind each number of its raw writes.
func holdCuts(t *testing.T, d *disk.Disk, p past) {
	t.Helper()
	for n := p[0].writes; n <= d.Writes(); n++ {
		c, _ := d.Cut(n)
		was := p.at(n)
		for range 2 {
			holds(t, opened(t, c), was.generation, roomFor(d, was.records), was.records...)
		}
		if c.Writes() != n || t.Failed() {
			t.Fatalf("behind %d of %d writes", n, d.Writes())
		}
	}
}

// P3.8, P3.10: of a disk cut behind any number of raw writes Open tells the records of that moment: those of a call under way are there behind its last write.
func TestWholeOrNot(t *testing.T) {
	r := dice(38)
	for range 60 {
		d := formatted(t, 9+r.upTo(60))
		p := goesOn(t, &r, d, opened(t, d), past{{1, 1, nil}})
		holdCuts(t, d, p)
	}
}

// P3.8: ahead of Format's write there is no journal.
func TestCutAheadOfFormat(t *testing.T) {
	c, _ := formatted(t, 9).Cut(0)
	if j, why := journal.Open(c); j != nil || why != api.ErrNone {
		t.Errorf("error %d", why)
	}
}

// P3.9: so it is when the power fails, and the disk starts, again and again.
func TestAgainAndAgain(t *testing.T) {
	r := dice(39)
	for range 60 {
		d := formatted(t, 9+r.upTo(40))
		p := past{{1, 1, nil}}
		for range 15 {
			j := opened(t, d)
			last := p[len(p)-1]
			holds(t, j, last.generation, roomFor(d, last.records), last.records...)
			d.Arm(r.upTo(9))
			p = goesOn(t, &r, d, j, p)
			d.Start()
		}
		holdCuts(t, d, p)
	}
}

// P3.9: at each raw write of each of three calls the power fails, one behind the other; what was torn is never seen, whatever is written over it.
func TestTornThrice(t *testing.T) {
	lengths := []int{1, 60, 100, 140}
	for _, n := range lengths {
		for _, m := range lengths {
			for _, k := range lengths {
				for cuts := range 4 * 4 {
					d := formatted(t, 13)
					appended(t, opened(t, d), "a", api.OK)
					want := []string{"a"}
					for i, x := range []string{long(n, "n"), long(m, "m"), long(k, "k")} {
						j := opened(t, d)
						d.Arm([]int{cuts % 4, cuts / 4, -1}[i])
						if j.Append([]byte(x)) == api.OK {
							want = append(want, x)
						}
						d.Start()
						holds(t, opened(t, d), 1, roomFor(d, want), want...)
					}
				}
			}
		}
	}
}

// P3.6, P3.9: behind a Rewrite that came to no end the next one has a generation above what that has left.
func TestRewriteOverTorn(t *testing.T) {
	for n := range 4 {
		d := formatted(t, 9)
		j := opened(t, d)
		appended(t, j, "a", api.OK)
		d.Arm(n)
		rewritten(t, j, api.ErrDead, "b", "c", long(60, "d"))
		d.Start()
		j = opened(t, d)
		holds(t, j, 1, 3, "a")
		want := uint64(2)
		if n > 0 {
			want = 3
		}
		rewritten(t, j, api.OK, "e")
		holds(t, j, want, 3, "e")
		holds(t, opened(t, d), want, 3, "e")
	}
}

// P3.10: behind Rewrite of Records they are the same, and there is at least as much room.
func TestRewriteOfRecords(t *testing.T) {
	r := dice(310)
	for range 60 {
		d := formatted(t, 9+r.upTo(60))
		j := opened(t, d)
		goesOn(t, &r, d, j, past{{1, 1, nil}})
		before, room := j.Records(), j.Room()
		if why := j.Rewrite(j.Records()); why != api.OK || j.Room() < room {
			t.Fatalf("error %d, room %d instead of %d", why, j.Room(), room)
		}
		for _, k := range []*journal.Journal{j, opened(t, d)} {
			if !slices.Equal(textsOf(k.Records()), textsOf(before)) || k.Room() != j.Room() {
				t.Fatal("other records")
			}
		}
	}
}
