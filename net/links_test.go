package net_test

import (
	"math"
	"slices"
	"testing"

	"escrow/api"
	"escrow/net"
)

// pairs are all that could be two nodes of a link.
func pairs() [][2]int {
	return [][2]int{{0, 1}, {1, 0}, {0, 2}, {2, 0}, {1, 2}, {2, 1}}
}

// each is a net on which one packet flies for each of pairs, in their order.
func each(t *testing.T) *net.Net {
	t.Helper()
	n := net.New()
	for i, c := range pairs() {
		send(t, n, c[0], c[1], "a", i+1)
	}
	return n
}

// P15.5: a link is cut both ways, whichever end is named first, until it is mended; the others stay.
func TestCut(t *testing.T) {
	for _, c := range pairs() {
		for _, m := range [][2]int{c, {c[1], c[0]}} {
			n := each(t)
			var others []int
			for i, p := range pairs() {
				if slices.Max(p[:]) != slices.Max(c[:]) || slices.Min(p[:]) != slices.Min(c[:]) {
					others = append(others, i)
				}
			}
			for range 2 { // a link that is cut may be cut
				ok(t, "Cut", n.Cut(c[0], c[1], true))
				ready(t, n, others...)
			}
			for range 2 {
				ok(t, "Cut", n.Cut(m[0], m[1], false))
				ready(t, n, 0, 1, 2, 3, 4, 5)
			}
		}
	}
}

// P15.5: links are cut and mended one apart from another.
func TestCutEach(t *testing.T) {
	for cuts := range 8 {
		for mends := range 8 {
			n := each(t)
			var want []int
			for k := range 3 {
				a, b := pairs()[2*k][0], pairs()[2*k][1]
				if cuts>>k&1 == 1 {
					ok(t, "Cut", n.Cut(a, b, true))
				}
				if mends>>k&1 == 1 {
					ok(t, "Cut", n.Cut(b, a, false))
				}
				if cuts&^mends>>k&1 == 0 {
					want = append(want, 2*k, 2*k+1)
				}
			}
			ready(t, n, want...)
		}
	}
}

// P15.5: ErrNode, and no link changes.
func TestCutRefuses(t *testing.T) {
	n := each(t)
	ok(t, "Cut", n.Cut(0, 1, true))
	for _, c := range [][2]int{{0, 0}, {1, 1}, {2, 2}, {0, 3}, {3, 0}, {3, 3}, {1, -1}, {-1, 1}, {-1, -1}, {0, math.MaxInt}, {math.MinInt, 2}} {
		for _, cut := range []bool{true, false} {
			refusesCall(t, n, "Cut", api.ErrNode, func() api.Errno { return n.Cut(c[0], c[1], cut) })
		}
	}
}

// P15.2, P15.5: on a cut link packets are sent and heard, doubled, moved and held, but not delivered.
func TestCutSends(t *testing.T) {
	n := net.New()
	ok(t, "Cut", n.Cut(0, 1, true))
	send(t, n, 0, 1, "a", 1)
	send(t, n, 1, 0, "b", 2)
	double(t, n, 0, 3)
	ok(t, "Move", n.Move(0, 2))
	ok(t, "Hold", n.Hold(0, 1))
	order(t, n, 2, 3, 1)
	heard(t, n, api.Packet{Id: 1, To: 1, Body: "a"}, api.Packet{Id: 2, From: 1, Body: "b"})
	ready(t, n)
	ok(t, "Cut", n.Cut(0, 1, false))
	ready(t, n, 1, 2)
}

// P15.6: packets are counted by from whom and to whom; of what is no link there are none.
func TestCounts(t *testing.T) {
	n := net.New()
	for i, c := range pairs() {
		for range i + 1 {
			_, why := n.Send(c[0], c[1], "a")
			ok(t, "Send", why)
		}
	}
	for at, came := range []int{0, 1, 1, 4, 2, 6} {
		c := pairs()[at]
		for range came {
			i := slices.IndexFunc(n.Flying(), func(p api.Packet) bool { return p.From == c[0] && p.To == c[1] })
			_, why := n.Deliver(i)
			ok(t, "Deliver", why)
		}
	}
	for at, came := range []int{0, 1, 1, 4, 2, 6} {
		counts(t, n, pairs()[at][0], pairs()[at][1], at+1, came)
	}
	for _, i := range []int{0, 1, 2} {
		counts(t, n, i, i, 0, 0)
		for _, out := range []int{-1, 3, math.MinInt, math.MaxInt} {
			counts(t, n, i, out, 0, 0)
			counts(t, n, out, i, 0, 0)
			counts(t, n, out, out, 0, 0)
		}
	}
}
