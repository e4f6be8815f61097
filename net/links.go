package net

import "escrow/api"

// oneWay is a link in one of its two directions, with how many packets were sent on it, and came.
type oneWay struct {
	cut  bool
	sent int
	came int
}

// Cut: P15.5.
func (n *Net) Cut(a, b int, cut bool) api.Errno {
	switch {
	case n == nil:
		return api.ErrNone
	case !areNodes(a, b):
		return api.ErrNode
	}
	n.links[a][b].cut, n.links[b][a].cut = cut, cut
	return api.OK
}

// Sent: P15.6.
func (n *Net) Sent(from, to int) int {
	return n.way(from, to).sent
}

// Came: P15.6.
func (n *Net) Came(from, to int) int {
	return n.way(from, to).came
}

// way is the link from the one to the other; where there is none nothing was sent.
func (n *Net) way(from, to int) oneWay {
	if n == nil || !areNodes(from, to) {
		return oneWay{}
	}
	return n.links[from][to]
}

// areNodes is whether both are nodes, and not the same.
func areNodes(a, b int) bool {
	return isNode(a) && isNode(b) && a != b
}

func isNode(a int) bool {
	return a >= 0 && a < api.Nodes
}
