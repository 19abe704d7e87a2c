package kind_test

import (
	"math/big"
	"slices"

	"tinder/api"
	"tinder/tree"
)

// modelAnswer is all that is told of a tree, in the chapter's words.
func modelAnswer(x api.Tree) (out answer) {
	last := len(x.Nodes) - 1
	if tree.Right(x) || tree.Spread(x) {
		out.least, out.most = modelCut(modelLeast(x, last)), modelCut(modelMost(x, last))
	}
	if !tree.Right(x) {
		return out
	}
	out.plain = true
	for _, n := range x.Nodes {
		out.plain = out.plain && modelPlain(n)
	}
	if l := modelLoad(x, last, []api.Node{}); l != nil {
		out.probes, out.ways, out.loaded = l.probes, l.ways, true
	}
	if u := modelOver(x, last, []api.Node{}); u != nil && tree.Right(*u) {
		out.over, out.is = *u, true
	}
	return out
}

func modelPlain(n api.Node) bool {
	kinds := []api.NodeKind{api.NodeEmpty, api.NodeSet, api.NodeSeq, api.NodeAlt, api.NodeGroup, api.NodeSpot, api.NodeRepeat}
	return slices.Contains(kinds, n.Kind) && !(n.Kind == api.NodeRepeat && n.Mode == api.ModeOwn)
}

// modelCut is a length as it is told: nil is one without end.
func modelCut(n *big.Int) int {
	if n == nil {
		return -1
	}
	if most := big.NewInt(1 << 30); n.Cmp(most) > 0 {
		n = most
	}
	return int(n.Int64())
}

// modelLeast is how short a node's text may be.
func modelLeast(x api.Tree, at int) *big.Int {
	n, out := x.Nodes[at], big.NewInt(0)
	var kids []*big.Int
	for _, kid := range n.Kids {
		kids = append(kids, modelLeast(x, kid))
	}
	switch n.Kind {
	case api.NodeSet:
		return big.NewInt(1)
	case api.NodeSeq:
		for _, kid := range kids {
			out.Add(out, kid)
		}
	case api.NodeAlt:
		out = slices.MinFunc(kids, (*big.Int).Cmp)
	case api.NodeGroup, api.NodeAtomic, api.NodeFresh:
		out = kids[0]
	case api.NodeRepeat:
		out.Mul(big.NewInt(int64(n.Min)), kids[0])
	}
	return out
}

// modelMost is how long a node's text may be; nil, if it has no end.
func modelMost(x api.Tree, at int) *big.Int {
	n, out := x.Nodes[at], big.NewInt(0)
	endless := false
	var kids []*big.Int
	for _, kid := range n.Kids {
		kids = append(kids, modelMost(x, kid))
		endless = endless || kids[len(kids)-1] == nil
	}
	switch n.Kind {
	case api.NodeSet:
		return big.NewInt(1)
	case api.NodeBack:
		return nil
	case api.NodeSeq, api.NodeTry:
		if endless {
			return nil
		}
		for _, kid := range kids {
			out.Add(out, kid)
		}
	case api.NodeAlt:
		if endless {
			return nil
		}
		out = slices.MaxFunc(kids, (*big.Int).Cmp)
	case api.NodeGroup, api.NodeAtomic, api.NodeFresh:
		return kids[0]
	case api.NodeRepeat:
		switch {
		case n.Max == 0 || !endless && kids[0].Sign() == 0:
			return out
		case n.Max == -1 || endless:
			return nil
		}
		out.Mul(big.NewInt(int64(n.Max)), kids[0])
	}
	return out
}

// modelPair is a load.
type modelPair struct{ probes, ways int }

// modelBehind is (p, w) and then (q, v).
func modelBehind(first, then modelPair) modelPair {
	return modelPair{first.probes + first.ways*then.probes, first.ways * then.ways}
}

// modelLeft says whether the innermost one of some looks is a NodeBehind.
func modelLeft(looks []api.Node) bool {
	return len(looks) > 0 && looks[len(looks)-1].Kind == api.NodeBehind
}

// modelLooks are the looks that cover a node's kids.
func modelLooks(n api.Node, looks []api.Node) []api.Node {
	if n.Kind == api.NodeAhead || n.Kind == api.NodeBehind {
		return append(slices.Clone(looks), n)
	}
	return looks
}

// modelLoad is a node's load, below these looks; nil, if it has none.
func modelLoad(x api.Tree, at int, looks []api.Node) *modelPair {
	n := x.Nodes[at]
	var kids []modelPair
	for _, kid := range n.Kids {
		l := modelLoad(x, kid, modelLooks(n, looks))
		if l == nil {
			return nil
		}
		kids = append(kids, *l)
	}
	var way []modelPair // what it is on the way, and at the end
	put := func(l modelPair) { way = append(way, l) }
	switch n.Kind {
	case api.NodeEmpty:
		put(modelPair{0, 1})
	case api.NodeSet, api.NodeSpot, api.NodeBack:
		put(modelPair{1, 1})
	case api.NodeGroup:
		put(kids[0])
	case api.NodeAtomic, api.NodeAhead, api.NodeBehind:
		put(modelPair{kids[0].probes + 1, 1})
	case api.NodeAlt:
		for _, kid := range kids {
			last := slices.Concat([]modelPair{{0, 0}}, way)[len(way)]
			put(modelPair{last.probes + kid.probes, last.ways + kid.ways})
		}
	case api.NodeSeq:
		if modelLeft(looks) {
			slices.Reverse(kids)
		}
		put(kids[0])
		for _, kid := range kids[1:] {
			put(modelBehind(way[len(way)-1], kid))
		}
	case api.NodeRepeat:
		if n.Max == -1 {
			return nil
		}
		way = modelRepeat(n, kids[0])
	}
	for _, l := range way {
		if l.probes > 200 || l.ways > 200 {
			return nil
		}
	}
	return &way[len(way)-1]
}

// modelRepeat is what the load of a counted repeat is on the way; it ends where that is too great.
func modelRepeat(n api.Node, kid modelPair) []modelPair {
	last := modelPair{0, 1}
	way := []modelPair{last}
	for round := 0; round < n.Max && last.probes <= 200 && last.ways <= 200; round++ {
		if round < n.Max-n.Min {
			last = modelPair{kid.probes + kid.ways*(1+last.probes), kid.ways*last.ways + 1}
		} else {
			last = modelBehind(kid, last)
		}
		way = append(way, last)
	}
	if n.Mode == api.ModeOwn {
		way = append(way, modelPair{last.probes + 1, 1})
	}
	return way
}

// modelOver is what becomes of a node below these looks, by the chapter's table; nil, if there is none.
func modelOver(x api.Tree, at int, looks []api.Node) *api.Tree {
	n := x.Nodes[at]
	if n.Kind == api.NodeBehind {
		l := modelLoad(x, n.Kids[0], modelLooks(n, looks))
		if l == nil {
			return nil
		}
		u := asks(l.probes + l.ways)
		return &u
	}
	var kids []api.Tree
	for _, kid := range n.Kids {
		u := modelOver(x, kid, modelLooks(n, looks))
		if u == nil {
			return nil
		}
		kids = append(kids, *u)
	}
	u := tree.Join(n, kids...)
	switch n.Kind {
	case api.NodeGroup:
		u = kids[0]
	case api.NodeRepeat:
		if n.Mode == api.ModeOwn {
			n.Mode = api.ModeGreedy
			u = seq(tree.Join(n, kids...), probe())
		}
	case api.NodeAtomic:
		u = seq(kids[0], probe())
	case api.NodeAhead:
		u = alt(seq(kids[0], set()), empty())
	case api.NodeBack:
		u = seq(probe(), anything())
	}
	return &u
}
