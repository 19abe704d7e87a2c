package tree

import (
	"cmp"
	"iter"
	"slices"

	"tinder/api"
)

// nodes are a tree's, in order or not.
type nodes []api.Node

// each goes through the nodes of some kinds, with their places.
func (l nodes) each(kinds ...api.NodeKind) iter.Seq2[int, api.Node] {
	return func(yield func(int, api.Node) bool) {
		for at, n := range l {
			if slices.Contains(kinds, n.Kind) && !yield(at, n) {
				return
			}
		}
	}
}

// all says whether each node of some kinds is as it is asked to be.
func (l nodes) all(right func(api.Node) bool, kinds ...api.NodeKind) bool {
	for _, n := range l.each(kinds...) {
		if !right(n) {
			return false
		}
	}
	return true
}

// last is the last one: there must be one.
func (l nodes) last() api.Node {
	return l[len(l)-1]
}

// moved are the same nodes in memory of their own, the places of their kids so much higher.
func (l nodes) moved(by int) nodes {
	out := make(nodes, 0, len(l))
	for _, n := range l {
		n.Set, n.Kids = copied(n.Set), copied(n.Kids)
		for i := range n.Kids {
			n.Kids[i] += by
		}
		out = append(out, n)
	}
	return out
}

// copied is the same row in memory of its own; one without elements is nil.
func copied[E any](l []E) []E {
	return append([]E(nil), l...)
}

// tree is a tree in order, at work: its nodes, and of each one the first place that it covers, and how deep it is.
type tree struct {
	nodes
	firsts, deeps []int
}

// ordered is a tree at work, and whether it is in order.
func ordered(t api.Tree) (tree, bool) {
	if len(t.Nodes) == 0 || len(t.Nodes) > api.MaxNodes {
		return tree{}, false
	}
	work := tree{nodes: t.Nodes}
	for at := range work.nodes {
		if !work.reach(at) {
			return tree{}, false
		}
	}
	return work, work.firsts[len(work.nodes)-1] == 0
}

// reach finds what a node covers, when those ahead of it are done, and says whether its kids stand where they must.
func (t *tree) reach(at int) bool {
	first, deepest := at, 0
	// Gone through from the last kid on, each one must stand lower: so however many there are, it ends within as many steps as there are places.
	for _, kid := range slices.Backward(t.nodes[at].Kids) {
		if first == 0 || kid != first-1 {
			return false
		}
		first, deepest = t.firsts[kid], max(deepest, t.deeps[kid])
	}
	t.firsts, t.deeps = append(t.firsts, first), append(t.deeps, deepest+1)
	return true
}

// deep is how deep the last node is.
func (t tree) deep() int {
	return t.deeps[len(t.deeps)-1]
}

// covered is the tree of what a node covers.
func (t tree) covered(at int) api.Tree {
	first := t.firsts[at]
	return api.Tree{Nodes: t.nodes[first : at+1].moved(-first)}
}

// begun are the places of the nodes of a kind, in the order in which they begin: of two that begin at one place, the one that covers the other stands behind it.
func (t tree) begun(kind api.NodeKind) []int {
	var places []int
	for at := range t.each(kind) {
		places = append(places, at)
	}
	slices.SortFunc(places, func(a, b int) int {
		return cmp.Or(cmp.Compare(t.firsts[a], t.firsts[b]), cmp.Compare(b, a))
	})
	return places
}
