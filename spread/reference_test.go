package spread_test

import (
	"math/big"
	"slices"

	"tinder/api"
	"tinder/tree"
)

// modelAnswer is all that is told of a tree, in the chapter's words.
func modelAnswer(x api.Tree) (out answer) {
	if !tree.Right(x) {
		out.e = api.ErrShape
		return out
	}
	last := len(x.Nodes) - 1
	size := modelSize(x, last)
	if size.Cmp(big.NewInt(4000)) > 0 {
		out.e, out.size = api.ErrSize, 4001
		return out
	}
	out.size = int(size.Int64())
	out.out = modelOut(x, last, nil)
	out.out.Names = x.Names
	return out
}

// modelSize is how many nodes become of a node.
func modelSize(x api.Tree, at int) *big.Int {
	n, all := x.Nodes[at], big.NewInt(0)
	for _, kid := range n.Kids {
		all.Add(all, modelSize(x, kid))
	}
	one := big.NewInt(1)
	if n.Kind != api.NodeRepeat {
		return all.Add(all, one)
	}
	// A copy, all copies, the rest, and what stands above these.
	copied, mores, rows := new(big.Int).Set(all), big.NewInt(0), n.Min
	if modelGroup(x, n.Kids[0]) {
		copied.Add(copied, one)
	}
	switch {
	case n.Max == -1:
		mores.Add(all, one)
		rows++
	case n.Max > n.Min:
		mores.Mul(new(big.Int).Add(all, one), big.NewInt(int64(n.Max-n.Min)))
		rows++
	}
	out := new(big.Int).Mul(copied, big.NewInt(int64(n.Min)))
	out.Add(out, mores)
	if rows != 1 {
		out.Add(out, one)
	}
	if n.Mode == own {
		out.Add(out, one)
	}
	return out
}

// modelGroup says whether a NodeGroup is in what becomes of a node.
func modelGroup(x api.Tree, at int) bool {
	n := x.Nodes[at]
	if n.Kind == api.NodeRepeat && n.Max == 0 {
		return false
	}
	return n.Kind == api.NodeGroup || slices.ContainsFunc(n.Kids, func(kid int) bool { return modelGroup(x, kid) })
}

// modelCopy is a copy of a tree.
func modelCopy(x api.Tree) api.Tree {
	if slices.ContainsFunc(x.Nodes, func(n api.Node) bool { return n.Kind == api.NodeGroup }) {
		return fresh(x)
	}
	return x
}

// modelOut is what becomes of a node, below these looks.
func modelOut(x api.Tree, at int, looks []api.NodeKind) api.Tree {
	n, inner := x.Nodes[at], looks
	if n.Kind == api.NodeAhead || n.Kind == api.NodeBehind {
		inner = append(slices.Clone(looks), n.Kind)
	}
	if n.Kind == api.NodeRepeat {
		if n.Max == 0 {
			// Nothing of it is left, however great it is.
			return modelRepeat(n, empty(), looks)
		}
		return modelRepeat(n, modelOut(x, n.Kids[0], inner), looks)
	}
	var kids []api.Tree
	for _, kid := range n.Kids {
		kids = append(kids, modelOut(x, kid, inner))
	}
	return tree.Join(n, kids...)
}

// modelRepeat is what becomes of a NodeRepeat, x being what becomes of its kid.
func modelRepeat(n api.Node, x api.Tree, looks []api.NodeKind) api.Tree {
	m := n.Mode
	if m == own {
		m = greedy
	}
	var rest []api.Tree
	if n.Max == -1 {
		rest = []api.Tree{repeat(0, -1, m, x)}
	} else {
		for range n.Max - n.Min {
			rest = []api.Tree{try(m, append([]api.Tree{x}, rest...)...)}
		}
	}
	var trees []api.Tree
	for range n.Min {
		trees = append(trees, modelCopy(x))
	}
	if len(looks) > 0 && looks[len(looks)-1] == api.NodeBehind {
		trees = append(rest, trees...)
	} else {
		trees = append(trees, rest...)
	}
	out := empty()
	if len(trees) == 1 {
		out = trees[0]
	} else if len(trees) > 1 {
		out = seq(trees...)
	}
	if n.Mode == own {
		return atomic(out)
	}
	return out
}
