package net_test

import (
	"slices"
	"strconv"
	"strings"
	"testing"

	"escrow/api"
	"escrow/net"
)

// dice is a row of numbers that looks like chance, the same each time.
type dice uint64

func (d *dice) upTo(n int) int {
	*d = *d*6364136223846793005 + 1442695040888963407
	return int(uint64(*d) >> 33 % uint64(n))
}

// air is what a Net can do: a plain one can too.
type air interface {
	Send(from, to int, body string) (int, api.Errno)
	Deliver(i int) (api.Packet, api.Errno)
	Drop(i int) api.Errno
	Double(i int) (int, api.Errno)
	Move(i, to int) api.Errno
	Hold(i, ticks int) api.Errno
	Tick()
	Cut(a, b int, cut bool) api.Errno
	Flying() []api.Packet
	Heard() []api.Packet
	Ready() []int
	Sent(from, to int) int
	Came(from, to int) int
}

// plain is what a Net is held against: it has all packets that ever were by their numbers, and lists of numbers: those that fly, were sent, came.
type plain struct {
	all   []api.Packet
	order []int
	sent  []int
	came  []int
	ends  []int // of each tick that a packet is held: its number
	cuts  [][2]int
}

func (p *plain) packet(id int) api.Packet {
	q := p.all[id-1]
	for _, held := range p.ends {
		if held == id {
			q.Held++
		}
	}
	return q
}

func (p *plain) made(from, to int, body string) int {
	id := len(p.all) + 1
	p.all = append(p.all, api.Packet{Id: id, From: from, To: to, Body: body})
	p.order = append(p.order, id)
	return id
}

func (p *plain) none(i int) bool { return i < 0 || i >= len(p.order) }

func noLink(a, b int) bool { return a < 0 || b < 0 || a > 2 || b > 2 || a == b }

func (p *plain) isCut(a, b int) bool {
	return slices.Contains(p.cuts, [2]int{min(a, b), max(a, b)})
}

func (p *plain) Send(from, to int, body string) (int, api.Errno) {
	if noLink(from, to) {
		return 0, api.ErrNode
	}
	if len(body) > 4096 {
		return 0, api.ErrLong
	}
	if len(p.order) == 1024 || len(p.sent) == 65536 {
		return 0, api.ErrMany
	}
	id := p.made(from, to, body)
	p.sent = append(p.sent, id)
	return id, api.OK
}

func (p *plain) Deliver(i int) (api.Packet, api.Errno) {
	if p.none(i) {
		return api.Packet{}, api.ErrNone
	}
	q := p.packet(p.order[i])
	if q.Held > 0 {
		return api.Packet{}, api.ErrHeld
	}
	if p.isCut(q.From, q.To) {
		return api.Packet{}, api.ErrCut
	}
	p.order = slices.Delete(p.order, i, i+1)
	p.came = append(p.came, q.Id)
	return q, api.OK
}

func (p *plain) Drop(i int) api.Errno {
	if p.none(i) {
		return api.ErrNone
	}
	p.order = slices.Delete(p.order, i, i+1)
	return api.OK
}

func (p *plain) Double(i int) (int, api.Errno) {
	if p.none(i) {
		return 0, api.ErrNone
	}
	if len(p.order) == 1024 {
		return 0, api.ErrMany
	}
	q := p.packet(p.order[i])
	return p.made(q.From, q.To, q.Body), api.OK
}

func (p *plain) Move(i, to int) api.Errno {
	if p.none(i) || p.none(to) {
		return api.ErrNone
	}
	id := p.order[i]
	p.order = slices.Insert(slices.Delete(p.order, i, i+1), to, id)
	return api.OK
}

func (p *plain) Hold(i, ticks int) api.Errno {
	if p.none(i) {
		return api.ErrNone
	}
	if ticks < 0 || ticks > 1000 {
		return api.ErrArg
	}
	id := p.order[i]
	p.ends = slices.DeleteFunc(p.ends, func(held int) bool { return held == id })
	p.ends = append(p.ends, slices.Repeat([]int{id}, ticks)...)
	return api.OK
}

func (p *plain) Tick() {
	for _, id := range p.order {
		if i := slices.Index(p.ends, id); i >= 0 {
			p.ends = slices.Delete(p.ends, i, i+1)
		}
	}
}

func (p *plain) Cut(a, b int, cut bool) api.Errno {
	if noLink(a, b) {
		return api.ErrNode
	}
	link := [2]int{min(a, b), max(a, b)}
	p.cuts = slices.DeleteFunc(p.cuts, func(l [2]int) bool { return l == link })
	if cut {
		p.cuts = append(p.cuts, link)
	}
	return api.OK
}

func (p *plain) Flying() []api.Packet {
	var l []api.Packet
	for _, id := range p.order {
		l = append(l, p.packet(id))
	}
	return l
}

func (p *plain) Heard() []api.Packet {
	var l []api.Packet
	for _, id := range p.sent {
		l = append(l, p.all[id-1])
	}
	return l
}

func (p *plain) Ready() []int {
	var l []int
	for i, q := range p.Flying() {
		if q.Held == 0 && !p.isCut(q.From, q.To) {
			l = append(l, i)
		}
	}
	return l
}

func (p *plain) count(l []int, from, to int) int {
	n := 0
	for _, id := range l {
		if p.all[id-1].From == from && p.all[id-1].To == to {
			n++
		}
	}
	return n
}

func (p *plain) Sent(from, to int) int { return p.count(p.sent, from, to) }

func (p *plain) Came(from, to int) int { return p.count(p.came, from, to) }

func tell(l ...int) string {
	var s strings.Builder
	s.WriteString("[")
	for _, n := range l {
		s.WriteString(strconv.Itoa(n) + " ")
	}
	return s.String() + "]"
}

// packets is packets as text, long bodies cut.
func packets(l ...api.Packet) string {
	var s strings.Builder
	for _, p := range l {
		s.WriteString(tell(p.Id, p.From, p.To, p.Held, len(p.Body)) + p.Body[:min(len(p.Body), 9)] + " ")
	}
	return s.String()
}

// stands tells all that an air tells without a change.
func stands(a air) string {
	s := "flying " + packets(a.Flying()...) + "heard " + packets(a.Heard()...) + "ready " + tell(a.Ready()...) + " counts"
	for from := -1; from <= api.Nodes; from++ {
		for to := -1; to <= api.Nodes; to++ {
			s += " " + strconv.Itoa(a.Sent(from, to)) + "/" + strconv.Itoa(a.Came(from, to))
		}
	}
	return s
}

// sent is a new net on which these bodies were sent, each from 0 to 1.
func sent(t *testing.T, bodies ...string) *net.Net {
	t.Helper()
	n := net.New()
	for i, body := range bodies {
		send(t, n, 0, 1, body, i+1)
	}
	return n
}

// full is a net on which as many packets fly as may.
func full(t *testing.T) *net.Net {
	t.Helper()
	return sent(t, slices.Repeat([]string{"f"}, api.MaxFlying)...)
}

// long is the longest body that may be.
func long() string {
	return strings.Repeat("l", api.MaxWire)
}

func send(t *testing.T, n *net.Net, from, to int, body string, want int) {
	t.Helper()
	if id, why := n.Send(from, to, body); id != want || why != api.OK {
		t.Fatalf("Send(%d, %d, %d bytes): %d, error %d instead of %d", from, to, len(body), id, why, want)
	}
}

func double(t *testing.T, n *net.Net, i, want int) {
	t.Helper()
	if id, why := n.Double(i); id != want || why != api.OK {
		t.Fatalf("Double(%d): %d, error %d instead of %d", i, id, why, want)
	}
}

func deliver(t *testing.T, n *net.Net, i int, want api.Packet) {
	t.Helper()
	if p, why := n.Deliver(i); p != want || why != api.OK {
		t.Fatalf("Deliver(%d): %v, error %d instead of %v", i, p, why, want)
	}
}

func ok(t *testing.T, what string, why api.Errno) {
	t.Helper()
	if why != api.OK {
		t.Fatalf("%s: error %d", what, why)
	}
}

func flying(t *testing.T, n *net.Net, want ...api.Packet) {
	t.Helper()
	if got := n.Flying(); !slices.Equal(got, want) {
		t.Errorf("flying %s instead of %s", packets(got...), packets(want...))
	}
}

// order fails if the packets that fly have other numbers.
func order(t *testing.T, n *net.Net, want ...int) {
	t.Helper()
	var got []int
	for _, p := range n.Flying() {
		got = append(got, p.Id)
	}
	if !slices.Equal(got, want) {
		t.Errorf("numbers %v fly instead of %v", got, want)
	}
}

func heard(t *testing.T, n *net.Net, want ...api.Packet) {
	t.Helper()
	if got := n.Heard(); !slices.Equal(got, want) {
		t.Errorf("heard %s instead of %s", packets(got...), packets(want...))
	}
}

func ready(t *testing.T, n *net.Net, want ...int) {
	t.Helper()
	if got := n.Ready(); !slices.Equal(got, want) {
		t.Errorf("ready %v instead of %v", got, want)
	}
}

// counts fails if other numbers of packets were sent, or came, from the one to the other.
func counts(t *testing.T, n *net.Net, from, to, sent, came int) {
	t.Helper()
	if s, c := n.Sent(from, to), n.Came(from, to); s != sent || c != came {
		t.Errorf("%d to %d: %d sent, %d came instead of %d, %d", from, to, s, c, sent, came)
	}
}

// refuses fails if a call that is refused answers another error, or something beside it, or changes what a net tells.
func refuses(t *testing.T, n *net.Net, what string, want api.Errno, call func() (bool, api.Errno)) {
	t.Helper()
	ahead := stands(n)
	if zero, why := call(); why != want || !zero {
		t.Errorf("%s: error %d instead of %d, nothing beside it: %v", what, why, want, zero)
	}
	if behind := stands(n); behind != ahead {
		t.Errorf("%s: %s, and then %s", what, ahead, behind)
	}
}

func refusesSend(t *testing.T, n *net.Net, from, to int, body string, want api.Errno) {
	t.Helper()
	refuses(t, n, "Send("+strconv.Itoa(from)+", "+strconv.Itoa(to)+", "+strconv.Itoa(len(body))+" bytes)", want, func() (bool, api.Errno) {
		id, why := n.Send(from, to, body)
		return id == 0, why
	})
}

func refusesDeliver(t *testing.T, n *net.Net, i int, want api.Errno) {
	t.Helper()
	refuses(t, n, "Deliver("+strconv.Itoa(i)+")", want, func() (bool, api.Errno) {
		p, why := n.Deliver(i)
		return p == api.Packet{}, why
	})
}

func refusesDouble(t *testing.T, n *net.Net, i int, want api.Errno) {
	t.Helper()
	refuses(t, n, "Double("+strconv.Itoa(i)+")", want, func() (bool, api.Errno) {
		id, why := n.Double(i)
		return id == 0, why
	})
}

func refusesCall(t *testing.T, n *net.Net, what string, want api.Errno, call func() api.Errno) {
	t.Helper()
	refuses(t, n, what, want, func() (bool, api.Errno) { return true, call() })
}
