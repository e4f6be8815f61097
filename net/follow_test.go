package net_test

import (
	"slices"
	"strconv"
	"testing"

	"escrow/api"
	"escrow/net"
)

func errno(e api.Errno) string { return strconv.Itoa(int(e)) }

func numbered(id int, e api.Errno) string { return strconv.Itoa(id) + "," + errno(e) }

func brought(p api.Packet, e api.Errno) string { return packets(p) + errno(e) }

// acts are the steps of small scripts: what each answers.
func acts() []func(a air) string {
	return []func(a air) string{
		func(a air) string { return numbered(a.Send(0, 1, "a"+strconv.Itoa(len(a.Heard())))) },
		func(a air) string { return numbered(a.Send(2, 0, "b"+strconv.Itoa(len(a.Heard())))) },
		func(a air) string { return brought(a.Deliver(0)) },
		func(a air) string { return brought(a.Deliver(1)) },
		func(a air) string { return errno(a.Drop(1)) },
		func(a air) string { return numbered(a.Double(0)) },
		func(a air) string { return errno(a.Move(0, 2)) },
		func(a air) string { return errno(a.Move(1, 0)) },
		func(a air) string { return errno(a.Hold(0, 2)) },
		func(a air) string { a.Tick(); return "" },
		func(a air) string { return errno(a.Cut(1, 0, a.Sent(0, 1) > a.Came(0, 1))) },
	}
}

// P15.2 to P15.6: all scripts of five acts behind two packets that were sent, held against the plain net.
func TestSmallScripts(t *testing.T) {
	const length = 5
	all := acts()
	scripts := 1
	for range length {
		scripts *= len(all)
	}
	for script := range scripts {
		n, p := net.New(), &plain{}
		for i := range 2 {
			all[i](n)
			all[i](p)
		}
		for i, rest := 0, script; i < length; i, rest = i+1, rest/len(all) {
			got, want := all[rest%len(all)](n), all[rest%len(all)](p)
			if got != want || i == length-1 && stands(n) != stands(p) {
				t.Fatalf("script %d, act %d: %s, %s instead of %s, %s", script, i, got, stands(n), want, stands(p))
			}
		}
	}
}

// chance does one act that looks like chance, right and wrong ones, and tells its answer.
func chance(a air, d *dice) string {
	i, j, node, other := d.upTo(14)-1, d.upTo(14)-1, d.upTo(5)-1, d.upTo(4)
	switch d.upTo(14) {
	case 0, 1, 2, 3:
		return numbered(a.Send(node, other, strconv.Itoa(d.upTo(100))))
	case 4, 5, 6:
		return brought(a.Deliver(i))
	case 7:
		return errno(a.Drop(i))
	case 8:
		return numbered(a.Double(i))
	case 9:
		return errno(a.Move(i, j))
	case 10:
		return errno(a.Hold(i, d.upTo(6)-1))
	case 11:
		return errno(a.Hold(i, 1000+d.upTo(2)))
	case 12:
		return errno(a.Cut(node, other, d.upTo(3) == 0))
	}
	a.Tick()
	return ""
}

// P15.2 to P15.6: long scripts that look like chance, held against the plain net behind each act.
func TestLongScripts(t *testing.T) {
	for seed := range 200 {
		n, p := net.New(), &plain{}
		d, e := dice(seed), dice(seed)
		for act := range 150 {
			got, want := chance(n, &d), chance(p, &e)
			if got != want || stands(n) != stands(p) {
				t.Fatalf("seed %d, act %d: %s, %s instead of %s, %s", seed, act, got, stands(n), want, stands(p))
			}
		}
	}
}

// ledger is what was done on a net in all: the packets that were delivered, how many were doubled, and dropped.
type ledger struct {
	came    []api.Packet
	doubled int
	dropped int
}

// book does one act that looks like chance, and writes down what came of it.
func (l *ledger) book(n *net.Net, d *dice) {
	i, j := d.upTo(9)-1, d.upTo(9)-1
	switch d.upTo(12) {
	case 0, 1, 2, 3:
		n.Send(d.upTo(4), d.upTo(3), "body "+strconv.Itoa(d.upTo(1000)))
	case 4, 5, 6:
		if p, why := n.Deliver(i); why == api.OK {
			l.came = append(l.came, p)
		}
	case 7:
		if n.Drop(i) == api.OK {
			l.dropped++
		}
	case 8:
		if _, why := n.Double(i); why == api.OK {
			l.doubled++
		}
	case 9:
		n.Move(i, j)
	case 10:
		n.Hold(i, j)
		n.Tick()
	default:
		n.Cut(d.upTo(3), d.upTo(3), d.upTo(3) == 0)
	}
}

// P15.7: what is delivered has From, To and Body of one that was sent, each number at most once. P15.8: all is counted.
func TestNothingOfNothing(t *testing.T) {
	for seed := range 200 {
		n, d := net.New(), dice(seed)
		var l ledger
		for act := range 200 {
			l.book(n, &d)
			if in, out := len(n.Heard())+l.doubled, len(l.came)+l.dropped+len(n.Flying()); in != out {
				t.Fatalf("seed %d, act %d: %d were sent and doubled, %d are accounted for", seed, act, in, out)
			}
		}
		ids := map[int]bool{}
		for _, p := range l.came {
			same := func(q api.Packet) bool { return q.From == p.From && q.To == p.To && q.Body == p.Body }
			if ids[p.Id] || p.Held != 0 || !slices.ContainsFunc(n.Heard(), same) {
				t.Fatalf("seed %d: %v was delivered", seed, p)
			}
			ids[p.Id] = true
		}
		total := 0
		for _, c := range pairs() {
			total += n.Came(c[0], c[1])
		}
		if total != len(l.came) {
			t.Fatalf("seed %d: %d came, %d are told", seed, len(l.came), total)
		}
	}
}

// P15.9: what nobody moves, holds, doubles or cuts is delivered from the front in the order in which it was sent, whatever is dropped.
func TestInOrder(t *testing.T) {
	for seed := range 100 {
		n, d := net.New(), dice(seed)
		var line []api.Packet // that were sent, and fly yet
		for range 200 {
			switch d.upTo(6) {
			case 0, 1, 2:
				p := api.Packet{From: d.upTo(3), Body: strconv.Itoa(d.upTo(100))}
				p.To = (p.From + 1 + d.upTo(2)) % 3
				p.Id, _ = n.Send(p.From, p.To, p.Body)
				line = append(line, p)
			case 3, 4:
				if len(line) == 0 {
					refusesDeliver(t, n, 0, api.ErrNone)
					continue
				}
				deliver(t, n, 0, line[0])
				line = line[1:]
			case 5:
				if i := d.upTo(40); i < len(line) {
					ok(t, "Drop", n.Drop(i))
					line = slices.Delete(line, i, i+1)
				}
			}
			n.Tick()
		}
		flying(t, n, line...)
	}
}

// Rule 4: what a net answers hangs on the calls on it alone.
func TestSameAgain(t *testing.T) {
	for seed := range 20 {
		n, m := net.New(), net.New()
		d, e := dice(seed), dice(seed)
		for range 100 {
			if got, want := chance(n, &d), chance(m, &e); got != want || stands(n) != stands(m) {
				t.Fatalf("seed %d: %s and %s", seed, got, want)
			}
		}
	}
}

// The chapter's examples, in their order.
func TestExamples(t *testing.T) {
	n := net.New()
	send(t, n, 0, 1, "a", 1)
	send(t, n, 0, 1, "b", 2)
	ok(t, "Move", n.Move(1, 0))
	deliver(t, n, 0, api.Packet{Id: 2, From: 0, To: 1, Body: "b", Held: 0})
	double(t, n, 0, 3)
	ok(t, "Drop", n.Drop(0))
	deliver(t, n, 0, api.Packet{Id: 3, From: 0, To: 1, Body: "a", Held: 0})
	counts(t, n, 0, 1, 2, 2)
	heard(t, n, api.Packet{Id: 1, To: 1, Body: "a"}, api.Packet{Id: 2, To: 1, Body: "b"})

	send(t, n, 0, 1, "c", 4)
	ok(t, "Cut", n.Cut(1, 0, true))
	refusesDeliver(t, n, 0, api.ErrCut)
	ok(t, "Cut", n.Cut(1, 0, false))
	ok(t, "Hold", n.Hold(0, 2))
	for range 2 {
		refusesDeliver(t, n, 0, api.ErrHeld)
		n.Tick()
	}
	deliver(t, n, 0, api.Packet{Id: 4, From: 0, To: 1, Body: "c"})

	refusesSend(t, n, 0, 0, "d", api.ErrNode)
	refusesSend(t, n, 0, 3, "d", api.ErrNode)
}
