package view

import "escrow/api"

// likeness is whether a node is a promise, or what looks like one.
func likeness(n api.Node) bool {
	return n.Kind == api.KindProm || n.Kind == api.KindFake
}

// tells is whether that name can say of a node whether it is a promise or a fake.
func tells(who int, n api.Node) bool {
	return likeness(n) && (who == n.From || who == n.To || who == api.Notary)
}

// veiled is whether a node is a promise or a fake to that name, and it cannot say which.
func veiled(who int, n api.Node) bool {
	return likeness(n) && !tells(who, n)
}

func promises(n api.Node, to int) bool {
	return n.Kind == api.KindProm && n.To == to
}

// seenBy answers as which kind that name sees a node.
func seenBy(who int) func(n api.Node) int {
	return func(n api.Node) int {
		if veiled(who, n) {
			return api.KindProm
		}
		return n.Kind
	}
}

// madeBy answers of which kind a node is where that name has made all that was promised to it.
func madeBy(to int) func(n api.Node) int {
	return func(n api.Node) int {
		if promises(n, to) {
			return api.KindFake
		}
		return n.Kind
	}
}
