package net_test

import (
	"math"
	"slices"
	"testing"

	"escrow/api"
	"escrow/net"
)

// P15.1: nothing flies, nothing was heard, no link is cut.
func TestNew(t *testing.T) {
	n := net.New()
	flying(t, n)
	heard(t, n)
	ready(t, n)
	for from := range api.Nodes {
		for to := range api.Nodes {
			counts(t, n, from, to, 0, 0)
			if from != to {
				id, why := n.Send(from, to, "a")
				ok(t, "Send", why)
				deliver(t, n, 0, api.Packet{Id: id, From: from, To: to, Body: "a"})
			}
		}
	}
}

// P15.1: what happens on one net is nothing to another one.
func TestNewIsAlone(t *testing.T) {
	n, other := net.New(), net.New()
	send(t, n, 0, 1, "a", 1)
	ok(t, "Cut", n.Cut(0, 1, true))
	flying(t, other)
	heard(t, other)
	send(t, other, 0, 1, "b", 1)
	deliver(t, other, 0, api.Packet{Id: 1, From: 0, To: 1, Body: "b"})
	counts(t, n, 0, 1, 1, 0)
}

// P15.2: a packet flies behind the others, with the next number, Held 0; it is heard.
func TestSend(t *testing.T) {
	n := net.New()
	var want []api.Packet
	for _, c := range [][2]int{{0, 1}, {1, 0}, {0, 2}, {2, 0}, {1, 2}, {2, 1}, {0, 1}} {
		p := api.Packet{Id: len(want) + 1, From: c[0], To: c[1], Body: "\x00\xff" + string(rune('a'+len(want)))}
		send(t, n, p.From, p.To, p.Body, p.Id)
		want = append(want, p)
		flying(t, n, want...)
		heard(t, n, want...)
	}
	ready(t, n, 0, 1, 2, 3, 4, 5, 6)
	counts(t, n, 0, 1, 2, 0)
	counts(t, n, 1, 0, 1, 0)
}

// P15.2: a body of no bytes, and of MaxWire, may be sent; what is alike is sent twice.
func TestSendBodies(t *testing.T) {
	n := sent(t, "", long(), "a", "a")
	deliver(t, n, 1, api.Packet{Id: 2, To: 1, Body: long()})
	deliver(t, n, 0, api.Packet{Id: 1, To: 1})
	deliver(t, n, 0, api.Packet{Id: 3, To: 1, Body: "a"})
	deliver(t, n, 0, api.Packet{Id: 4, To: 1, Body: "a"})
}

// P15.2: ErrNode, also ahead of ErrLong; ErrLong; a refused packet takes no number.
func TestSendRefuses(t *testing.T) {
	n := sent(t, "a")
	for _, c := range [][2]int{{0, 0}, {1, 1}, {2, 2}, {0, 3}, {3, 0}, {3, 3}, {1, -1}, {-1, 1}, {-1, -1}, {0, math.MaxInt}, {math.MinInt, 0}, {15, 2}} {
		refusesSend(t, n, c[0], c[1], "b", api.ErrNode)
		refusesSend(t, n, c[0], c[1], long()+"l", api.ErrNode)
	}
	refusesSend(t, n, 0, 1, long()+"l", api.ErrLong)
	refusesSend(t, n, 2, 1, long()+long(), api.ErrLong)
	send(t, n, 0, 2, "c", 2)
}

// P15.2: ErrMany while MaxFlying packets fly, behind ErrNode and ErrLong; one that flies no more makes room.
func TestSendFlyingMany(t *testing.T) {
	n := full(t)
	refusesSend(t, n, 0, 1, "b", api.ErrMany)
	refusesSend(t, n, 2, 1, "", api.ErrMany)
	refusesSend(t, n, 0, 1, long()+"l", api.ErrLong)
	refusesSend(t, n, 0, 0, "b", api.ErrNode)
	deliver(t, n, 7, api.Packet{Id: 8, To: 1, Body: "f"})
	send(t, n, 1, 2, "b", api.MaxFlying+1)
	refusesSend(t, n, 0, 1, "c", api.ErrMany)
	ok(t, "Drop", n.Drop(0))
	double(t, n, 0, api.MaxFlying+2)
	refusesSend(t, n, 0, 1, "c", api.ErrMany)
}

// P15.2: ErrMany behind MaxHeard packets, whatever flies; those that are doubled are no part of them.
func TestSendHeardMany(t *testing.T) {
	n := sent(t, "first")
	double(t, n, 0, 2)
	for i := 1; i < api.MaxHeard; i++ {
		send(t, n, 1, 2, "a", i+2)
		ok(t, "Drop", n.Drop(2))
	}
	for range 2 {
		refusesSend(t, n, 0, 1, "b", api.ErrMany)
		refusesSend(t, n, 0, 1, long()+"l", api.ErrLong)
		refusesSend(t, n, 3, 1, "b", api.ErrNode)
		ok(t, "Drop", n.Drop(0))
	}
	flying(t, n)
	if l := n.Heard(); len(l) != api.MaxHeard || l[0].Body != "first" || l[api.MaxHeard-1].Id != api.MaxHeard+1 {
		t.Errorf("%d heard, the first %v, the last %v", len(l), l[0], l[len(l)-1])
	}
	counts(t, n, 1, 2, api.MaxHeard-1, 0)
}

// P15.4: behind MaxHeard packets one that flies is doubled yet.
func TestDoubleHeardMany(t *testing.T) {
	n := net.New()
	for i := range api.MaxHeard {
		send(t, n, 0, 1, "a", i+1)
		if i < api.MaxHeard-1 {
			ok(t, "Drop", n.Drop(0))
		}
	}
	double(t, n, 0, api.MaxHeard+1)
	order(t, n, api.MaxHeard, api.MaxHeard+1)
}

// P15.6: Flying, Heard and Ready are new memory each time, spare room too.
func TestAnswersAreNew(t *testing.T) {
	n := sent(t, "a", "b", "c", "d", "e")
	want := n.Flying()
	ahead := stands(n)
	for range 2 {
		f, h, r := n.Flying(), n.Heard(), n.Ready()
		for i := range f[:cap(f)] {
			f[:cap(f)][i] = api.Packet{Id: 99, From: 2, Body: "spoilt", Held: 5}
		}
		for i := range h[:cap(h)] {
			h[:cap(h)][i] = api.Packet{Id: 98, From: 2, Body: "spoilt", Held: 5}
		}
		for i := range r[:cap(r)] {
			r[:cap(r)][i] = 97
		}
		if behind := stands(n); behind != ahead {
			t.Fatalf("%s, and then %s", ahead, behind)
		}
	}
	send(t, n, 0, 1, "f", 6)
	want = append(want, api.Packet{Id: 6, To: 1, Body: "f"})
	flying(t, n, want...)
	heard(t, n, want...)
	old := n.Flying()
	ok(t, "Drop", n.Drop(0))
	n.Hold(0, 9)
	if !slices.Equal(old, want) {
		t.Errorf("what was answered has become %s", packets(old...))
	}
}

// P15.6: on nil, whatever the arguments.
func TestNilNet(t *testing.T) {
	var n *net.Net
	for _, i := range []int{0, 1, 2, -1, math.MinInt, math.MaxInt} {
		for _, j := range []int{0, 1, -1, math.MaxInt} {
			refusesSend(t, n, i, j, "", api.ErrNone)
			refusesSend(t, n, i, j, long()+"l", api.ErrNone)
			refusesDeliver(t, n, i, api.ErrNone)
			refusesDouble(t, n, i, api.ErrNone)
			for what, call := range map[string]func() api.Errno{
				"Drop": func() api.Errno { return n.Drop(i) },
				"Move": func() api.Errno { return n.Move(i, j) },
				"Hold": func() api.Errno { return n.Hold(i, j) },
				"Cut":  func() api.Errno { return n.Cut(i, j, true) },
				"Mend": func() api.Errno { return n.Cut(i, j, false) },
			} {
				refusesCall(t, n, what, api.ErrNone, call)
			}
			counts(t, n, i, j, 0, 0)
		}
	}
	n.Tick()
	flying(t, n)
	heard(t, n)
	ready(t, n)
}
