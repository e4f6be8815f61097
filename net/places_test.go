package net_test

import (
	"math"
	"slices"
	"testing"

	"escrow/api"
	"escrow/net"
)

// nowhere are places that a net of n packets doesn't have.
func nowhere(n int) []int {
	return []int{n, n + 1, -1, math.MinInt, math.MaxInt}
}

// P15.3: the packet at the place flies no more, and came; the others stay in order.
func TestDeliver(t *testing.T) {
	for at := range 4 {
		n := sent(t, "a", "b", "c", "d")
		all := n.Flying()
		deliver(t, n, at, all[at])
		heard(t, n, all...)
		flying(t, n, slices.Delete(slices.Clone(all), at, at+1)...)
		counts(t, n, 0, 1, 4, 1)
		counts(t, n, 1, 0, 0, 0)
	}
}

// P15.3: ErrNone where there is no place.
func TestDeliverNowhere(t *testing.T) {
	for _, i := range nowhere(0) {
		refusesDeliver(t, net.New(), i, api.ErrNone)
	}
	n := sent(t, "a", "b")
	ok(t, "Cut", n.Cut(0, 1, true))
	for _, i := range nowhere(2) {
		refusesDeliver(t, n, i, api.ErrNone)
	}
}

// P15.3: ErrHeld stands ahead of ErrCut; ErrCut goes by the link of the packet, in either direction.
func TestDeliverRefuses(t *testing.T) {
	n := net.New()
	send(t, n, 0, 1, "a", 1)
	send(t, n, 1, 0, "b", 2)
	send(t, n, 0, 2, "c", 3)
	ok(t, "Hold", n.Hold(0, 1))
	refusesDeliver(t, n, 0, api.ErrHeld)
	ok(t, "Cut", n.Cut(0, 1, true))
	refusesDeliver(t, n, 0, api.ErrHeld)
	refusesDeliver(t, n, 1, api.ErrCut)
	n.Tick()
	refusesDeliver(t, n, 0, api.ErrCut)
	deliver(t, n, 2, api.Packet{Id: 3, From: 0, To: 2, Body: "c"})
	ok(t, "Cut", n.Cut(0, 1, false))
	deliver(t, n, 1, api.Packet{Id: 2, From: 1, To: 0, Body: "b"})
	deliver(t, n, 0, api.Packet{Id: 1, From: 0, To: 1, Body: "a"})
}

// P15.4: what is dropped flies no more, and did not come; held and behind a cut link too.
func TestDrop(t *testing.T) {
	for at := range 3 {
		n := sent(t, "a", "b", "c")
		all := n.Flying()
		ok(t, "Hold", n.Hold(at, 5))
		ok(t, "Cut", n.Cut(0, 1, true))
		ok(t, "Drop", n.Drop(at))
		flying(t, n, slices.Delete(slices.Clone(all), at, at+1)...)
		heard(t, n, all...)
		counts(t, n, 0, 1, 3, 0)
		for _, i := range nowhere(2) {
			refusesCall(t, n, "Drop", api.ErrNone, func() api.Errno { return n.Drop(i) })
		}
	}
}

// P15.4: what is doubled flies behind the others, with the next number and Held 0; it is not heard again, nor sent.
func TestDouble(t *testing.T) {
	n := sent(t, "a", "b")
	sentAll := n.Flying()
	ok(t, "Hold", n.Hold(0, 7))
	ok(t, "Cut", n.Cut(0, 1, true))
	double(t, n, 0, 3)
	send(t, n, 2, 1, "c", 4)
	double(t, n, 2, 5)
	double(t, n, 3, 6)
	flying(t, n,
		api.Packet{Id: 1, To: 1, Body: "a", Held: 7},
		api.Packet{Id: 2, To: 1, Body: "b"},
		api.Packet{Id: 3, To: 1, Body: "a"},
		api.Packet{Id: 4, From: 2, To: 1, Body: "c"},
		api.Packet{Id: 5, To: 1, Body: "a"},
		api.Packet{Id: 6, From: 2, To: 1, Body: "c"})
	heard(t, n, append(sentAll, api.Packet{Id: 4, From: 2, To: 1, Body: "c"})...)
	ready(t, n, 3, 5)
	counts(t, n, 0, 1, 2, 0)
	deliver(t, n, 5, api.Packet{Id: 6, From: 2, To: 1, Body: "c"})
	deliver(t, n, 3, api.Packet{Id: 4, From: 2, To: 1, Body: "c"})
	counts(t, n, 2, 1, 1, 2)
}

// P15.4: Double is refused with ErrNone, ahead of ErrMany, and takes no number then.
func TestDoubleRefuses(t *testing.T) {
	n := sent(t, "a", "b")
	for _, i := range nowhere(2) {
		refusesDouble(t, n, i, api.ErrNone)
	}
	double(t, n, 1, 3)
	n = full(t)
	refusesDouble(t, n, 0, api.ErrMany)
	refusesDouble(t, n, api.MaxFlying-1, api.ErrMany)
	for _, i := range nowhere(api.MaxFlying) {
		refusesDouble(t, n, i, api.ErrNone)
	}
	ok(t, "Drop", n.Drop(0))
	double(t, n, 0, api.MaxFlying+1)
	refusesDouble(t, n, 0, api.ErrMany)
}

// P15.4: a packet is taken out and laid in, for each two places; it stays as it was.
func TestMove(t *testing.T) {
	for i := range 5 {
		for to := range 5 {
			n := sent(t, "a", "b", "c", "d", "e")
			ok(t, "Hold", n.Hold(i, 3))
			all := n.Flying()
			ok(t, "Move", n.Move(i, to))
			want := slices.Insert(slices.Delete(slices.Clone(all), i, i+1), to, all[i])
			flying(t, n, want...)
			if got := n.Flying(); got[to] != all[i] {
				t.Errorf("Move(%d, %d): %s", i, to, packets(got...))
			}
			counts(t, n, 0, 1, 5, 0)
			ok(t, "Move", n.Move(to, i))
			flying(t, n, all...)
		}
	}
}

// P15.4: ErrNone where there is no place i, or no place to: the one behind the last packet is none.
func TestMoveNowhere(t *testing.T) {
	n := sent(t, "a", "b", "c")
	for _, i := range nowhere(3) {
		refusesCall(t, n, "Move from nowhere", api.ErrNone, func() api.Errno { return n.Move(i, 0) })
		refusesCall(t, n, "Move to nowhere", api.ErrNone, func() api.Errno { return n.Move(0, i) })
		refusesCall(t, n, "Move", api.ErrNone, func() api.Errno { return n.Move(i, i) })
	}
	n = net.New()
	refusesCall(t, n, "Move of none", api.ErrNone, func() api.Errno { return n.Move(0, 0) })
}

// P15.4: on a full net packets are moved, dropped and delivered as on others.
func TestFull(t *testing.T) {
	n := full(t)
	const last = api.MaxFlying - 1
	ok(t, "Move", n.Move(last, 0))
	ok(t, "Move", n.Move(1, last))
	l := n.Flying()
	if len(l) != api.MaxFlying || l[0].Id != api.MaxFlying || l[1].Id != 2 || l[last-1].Id != last || l[last].Id != 1 {
		t.Errorf("%d fly, first %v %v, last %v %v", len(l), l[0], l[1], l[last-1], l[last])
	}
	for range api.MaxFlying {
		if _, why := n.Deliver(0); why != api.OK {
			t.Fatalf("Deliver: error %d", why)
		}
	}
	flying(t, n)
	counts(t, n, 0, 1, api.MaxFlying, api.MaxFlying)
}

// P15.5: a packet is held for as many ticks, one that is held anew for the new ones; 0 lets it go.
func TestHold(t *testing.T) {
	n := sent(t, "a", "b", "c")
	for _, ticks := range []int{api.MaxHold, 0, 1, 2} {
		ok(t, "Hold", n.Hold(1, ticks))
		flying(t, n, api.Packet{Id: 1, To: 1, Body: "a"}, api.Packet{Id: 2, To: 1, Body: "b", Held: ticks}, api.Packet{Id: 3, To: 1, Body: "c"})
		if ticks == 0 {
			ready(t, n, 0, 1, 2)
		} else {
			ready(t, n, 0, 2)
		}
	}
	for left := 2; left > 0; left-- {
		if n.Flying()[1].Held != left {
			t.Errorf("Held %d instead of %d", n.Flying()[1].Held, left)
		}
		refusesDeliver(t, n, 1, api.ErrHeld)
		n.Tick()
	}
	deliver(t, n, 1, api.Packet{Id: 2, To: 1, Body: "b"})
	for _, p := range n.Heard() {
		if p.Held != 0 {
			t.Errorf("heard: %v", p)
		}
	}
}

// P15.5: ErrNone stands ahead of ErrArg, and what is refused leaves the packet held as it was.
func TestHoldRefuses(t *testing.T) {
	n := sent(t, "a", "b")
	ok(t, "Hold", n.Hold(0, 4))
	for _, ticks := range []int{-1, api.MaxHold + 1, math.MinInt, math.MaxInt} {
		refusesCall(t, n, "Hold", api.ErrArg, func() api.Errno { return n.Hold(0, ticks) })
		for _, i := range nowhere(2) {
			refusesCall(t, n, "Hold nowhere", api.ErrNone, func() api.Errno { return n.Hold(i, ticks) })
		}
	}
	for _, i := range nowhere(2) {
		refusesCall(t, n, "Hold nowhere", api.ErrNone, func() api.Errno { return n.Hold(i, 1) })
	}
}

// P15.5: a tick takes one from each packet that is held, and nothing from the others.
func TestTick(t *testing.T) {
	n := sent(t, "a", "b", "c", "d")
	for i, ticks := range []int{0, 1, 2, api.MaxHold} {
		ok(t, "Hold", n.Hold(i, ticks))
	}
	ok(t, "Cut", n.Cut(0, 1, true))
	for tick := range api.MaxHold + 2 {
		var got []int
		for _, p := range n.Flying() {
			got = append(got, p.Held)
		}
		if want := []int{0, max(1-tick, 0), max(2-tick, 0), max(api.MaxHold-tick, 0)}; !slices.Equal(got, want) {
			t.Fatalf("behind %d ticks: %v instead of %v", tick, got, want)
		}
		n.Tick()
	}
	send(t, n, 0, 2, "e", 5)
	ready(t, n, 4)
	net.New().Tick()
}

// P15.6: Ready has just the places at which Deliver answers OK, rising.
func TestReady(t *testing.T) {
	n := net.New()
	for i, c := range [][2]int{{0, 1}, {1, 2}, {2, 1}, {1, 0}, {0, 2}, {0, 1}} {
		send(t, n, c[0], c[1], "a", i+1)
	}
	ready(t, n, 0, 1, 2, 3, 4, 5)
	ok(t, "Cut", n.Cut(2, 1, true))
	ready(t, n, 0, 3, 4, 5)
	ok(t, "Hold", n.Hold(3, 1))
	ok(t, "Hold", n.Hold(1, 1))
	ready(t, n, 0, 4, 5)
	ok(t, "Move", n.Move(0, 5))
	ready(t, n, 3, 4, 5)
	n.Tick()
	ready(t, n, 2, 3, 4, 5)
	ok(t, "Cut", n.Cut(1, 2, false))
	ready(t, n, 0, 1, 2, 3, 4, 5)
}
