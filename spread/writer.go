package spread

import (
	"slices"

	"tinder/api"
	"tinder/tree"
)

// endless is the Max of a repeat without end.
const endless = -1

// writer writes out what becomes of a tree's nodes, each part behind its kids. Sets are the tree's own still.
type writer struct {
	api.Tree
	made []api.Node
}

// tooGreat ends all writing, however deep in the tree that is: each node that is written stays.
type tooGreat struct{}

// written is what becomes of the last node, and true; false, if that is too great.
func written(t api.Tree) (made []api.Node, ok bool) {
	defer func() {
		switch x := recover().(type) {
		case nil:
		case tooGreat:
			made, ok = nil, false
		default:
			panic(x)
		}
	}()
	w := &writer{Tree: t}
	w.become(len(w.Nodes)-1, false)
	return w.made, true
}

// put puts a node behind all that is made, above trees that were made last, and tells its place.
func (w *writer) put(n api.Node, kids ...int) int {
	if len(w.made) == api.MaxNodes {
		panic(tooGreat{})
	}
	n.Kids = kids
	w.made = append(w.made, n)
	return len(w.made) - 1
}

// become makes what becomes of the node at a place; left, if it is gone through from its end on.
func (w *writer) become(at int, left bool) int {
	n := w.Nodes[at]
	if n.Kind == api.NodeRepeat {
		return w.repeat(n, left)
	}
	left = n.Kind == api.NodeBehind || left && n.Kind != api.NodeAhead
	var kids []int
	for _, kid := range n.Kids {
		kids = append(kids, w.become(kid, left))
	}
	return w.put(n, kids...)
}

func (w *writer) repeat(n api.Node, left bool) int {
	if n.Mode != api.ModeOwn {
		return w.row(w.rounds(n, left)...)
	}
	n.Mode = api.ModeGreedy
	return w.put(api.Node{Kind: api.NodeAtomic}, w.repeat(n, left))
}

// row is trees, one behind the other, which were made last.
func (w *writer) row(trees ...int) int {
	switch len(trees) {
	case 0:
		return w.put(api.Node{Kind: api.NodeEmpty})
	case 1:
		return trees[0]
	}
	return w.put(api.Node{Kind: api.NodeSeq}, trees...)
}

// rounds are the rounds that must be, and the rest, so that these are gone through first.
func (w *writer) rounds(n api.Node, left bool) []int {
	if left {
		rest := w.rest(n, left)
		return append(rest, w.copies(n, left)...)
	}
	copies := w.copies(n, left)
	return append(copies, w.rest(n, left)...)
}

// copies are the rounds that must be.
func (w *writer) copies(n api.Node, left bool) []int {
	var trees []int
	for range n.Min {
		trees = append(trees, w.copied(n.Kids[0], left))
	}
	return trees
}

// copied is what becomes of a node once more. A round begins without what its groups had in the one ahead of it.
func (w *writer) copied(at int, left bool) int {
	from := len(w.made)
	x := w.become(at, left)
	if least, _ := tree.Groups(api.Tree{Nodes: w.made[from:]}); least == 0 {
		return x
	}
	return w.put(api.Node{Kind: api.NodeFresh}, x)
}

// rest is one tree of the rounds that may be, or none, if there are no such rounds.
func (w *writer) rest(n api.Node, left bool) []int {
	if n.Max == endless {
		x := w.become(n.Kids[0], left)
		return []int{w.put(api.Node{Kind: api.NodeRepeat, Max: endless, Mode: n.Mode}, x)}
	}
	var firsts, rest []int
	for range n.Max - n.Min {
		firsts = append(firsts, w.become(n.Kids[0], left))
	}
	// The last round is tried within all others, and so it is made first.
	for _, first := range slices.Backward(firsts) {
		rest = []int{w.put(api.Node{Kind: api.NodeTry, Mode: n.Mode}, slices.Concat([]int{first}, rest)...)}
	}
	return rest
}
