package net

import (
	"slices"

	"escrow/api"
)

// Deliver: P15.3.
func (n *Net) Deliver(i int) (api.Packet, api.Errno) {
	if !n.has(i) {
		return api.Packet{}, api.ErrNone
	}
	if why := n.stops(n.flying[i]); why != api.OK {
		return api.Packet{}, why
	}
	p := n.takeOut(i)
	n.links[p.From][p.To].came++
	return p, api.OK
}

// Drop: P15.4.
func (n *Net) Drop(i int) api.Errno {
	if !n.has(i) {
		return api.ErrNone
	}
	n.takeOut(i)
	return api.OK
}

// Move: P15.4.
func (n *Net) Move(i, to int) api.Errno {
	if !n.has(i) || !n.has(to) {
		return api.ErrNone
	}
	n.layIn(to, n.takeOut(i))
	return api.OK
}

// Hold: P15.5.
func (n *Net) Hold(i, ticks int) api.Errno {
	switch {
	case !n.has(i):
		return api.ErrNone
	case ticks < 0 || ticks > api.MaxHold:
		return api.ErrArg
	}
	n.flying[i].Held = ticks
	return api.OK
}

// Tick: P15.5.
func (n *Net) Tick() {
	if n == nil {
		return
	}
	for i := range n.flying {
		n.flying[i].Held = max(n.flying[i].Held-1, 0)
	}
}

// Flying: P15.6.
func (n *Net) Flying() []api.Packet {
	if n == nil {
		return nil
	}
	return slices.Clone(n.flying)
}

// Ready: P15.6.
func (n *Net) Ready() []int {
	if n == nil {
		return nil
	}
	var l []int
	for i, p := range n.flying {
		if n.stops(p) == api.OK {
			l = append(l, i)
		}
	}
	return l
}

// has is whether there is a place i; a nil Net has none.
func (n *Net) has(i int) bool {
	return n != nil && i >= 0 && i < len(n.flying)
}

// stops is why a packet that flies cannot be delivered now; OK, if it can.
func (n *Net) stops(p api.Packet) api.Errno {
	switch {
	case p.Held > 0:
		return api.ErrHeld
	case n.links[p.From][p.To].cut:
		return api.ErrCut
	}
	return api.OK
}

// takeOut takes the packet at place i out; those behind it come up by one.
func (n *Net) takeOut(i int) api.Packet {
	p := n.flying[i]
	last := i + copy(n.flying[i:], n.flying[i+1:])
	n.flying[last] = api.Packet{} // else its body would be kept on in the spare room
	n.flying = n.flying[:last]
	return p
}

// layIn lays a packet in at place i; it and those behind it give way by one.
func (n *Net) layIn(i int, p api.Packet) {
	n.flying = append(n.flying, api.Packet{})
	copy(n.flying[i+1:], n.flying[i:])
	n.flying[i] = p
}
