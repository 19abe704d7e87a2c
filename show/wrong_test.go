package show_test

import (
	"math/rand"
	"slices"
	"strings"
	"testing"

	"tinder/api"
	"tinder/tree"
)

// TestWrong: P11.1, R1, what is no written tree: ErrArg.
func TestWrong(t *testing.T) {
	a, node := set('a', 'a'), func(n api.Node, kids ...api.Tree) api.Tree { return tree.Join(n, kids...) }
	for _, x := range []api.Tree{
		// Nodes that are none, or not in order.
		{}, {Nodes: []api.Node{}}, {Names: []string{""}}, {Nodes: []api.Node{{}}}, {Nodes: slices.Concat(a.Nodes, a.Nodes)},
		{Nodes: []api.Node{{Kind: api.NodeAtomic, Kids: []int{0}}}}, {Nodes: []api.Node{{Kind: api.NodeAtomic, Kids: []int{1}}, a.Nodes[0]}}, {Nodes: []api.Node{a.Nodes[0], {Kind: api.NodeAtomic, Kids: []int{-1}}}}, {Nodes: []api.Node{a.Nodes[0], {Kind: api.NodeAtomic, Kids: []int{most}}}},
		{Nodes: []api.Node{a.Nodes[0], {Kind: api.NodeSeq, Kids: []int{0, 0}}}}, {Nodes: []api.Node{a.Nodes[0], a.Nodes[0], {Kind: api.NodeAlt, Kids: []int{1, 0}}}}, {Nodes: []api.Node{a.Nodes[0], a.Nodes[0], {Kind: api.NodeAtomic, Kids: []int{1}}}},
		// Nodes that are of no kind.
		node(api.Node{}, a), node(api.Node{Kind: 14}), node(api.Node{Kind: 255}), node(api.Node{Kind: api.NodeEmpty}, a), node(api.Node{Kind: api.NodeEmpty, Not: true}), set(3, 1), set(-1, 1), set(0, top+1), set(1, 1, 2, 2), set(4, 5, 1, 2), seq(), seq(a), alt(), alt(a),
		of(api.NodeAtomic), of(api.NodeAtomic, a, a), of(api.NodeAhead), of(api.NodeBehind, a, a), of(api.NodeRepeat, a), repeat(2, 1, greedy, a), repeat(-1, 1, greedy, a), repeat(0, -2, greedy, a), repeat(0, 1001, greedy, a), repeat(1001, -1, greedy, a), repeat(0, 1, 0, a), repeat(0, 1, 4, a), repeat(0, 1, 255, a), repeat(most, most, lazy, a), repeat(least, least, lazy, a),
		spot(0), spot(5), spot(255), node(api.Node{Kind: api.NodeSpot, Spot: 1, Group: 1}), node(api.Node{Kind: api.NodeSet, Max: -1}), node(api.Node{Kind: api.NodeSeq, Mode: greedy}, a, a),
		// Kinds that only spread trees have.
		node(api.Node{Kind: api.NodeTry, Mode: greedy}, a), node(api.Node{Kind: api.NodeTry, Mode: lazy}, a, a), of(api.NodeFresh, a), seq(of(api.NodeFresh, a), a),
		// Groups and names that are not those of one another.
		group(1, a), named(group(2, a), ""), named(group(0, a), ""), named(group(-1, a), ""), named(group(1, a), "", ""), named(a, ""), named(a, "n"), named(seq(group(2, a), group(1, a)), "", ""), named(seq(group(1, a), group(1, a)), "", ""), named(group(2, group(1, a)), "", ""), named(group(most, a), ""),
		back(0), back(1), back(-1), named(back(1), ""), named(seq(group(1, a), back(2)), ""), named(seq(group(1, a), back(0)), ""), named(seq(group(1, a), back(-1)), ""), named(seq(group(1, a), back(least)), ""), named(seq(group(1, a), back(most)), ""),
		named(group(1, a), "1"), named(group(1, a), "a b"), named(group(1, a), "a>"), named(group(1, a), "é"), named(group(1, a), "a\x00"), named(group(1, a), "\xFF"), named(group(1, a), name40+"a"), named(seq(group(1, a), group(2, a)), "n", "n"),
	} {
		refuses(t, x, api.ErrArg)
		alike(t, x)
		// One that is wrong below makes all wrong.
		if len(x.Nodes) > 0 {
			refuses(t, named(atomic(x), x.Names...), api.ErrArg)
			refuses(t, named(seq(start(), x, start()), x.Names...), api.ErrArg)
		}
	}
}

// bend changes one thing of a tree.
func bend(r *rand.Rand, x *api.Tree) {
	n := &x.Nodes[r.Intn(len(x.Nodes))]
	number := []int{-1, 0, 1, 2, 3, 1000, 1001, most, least}[r.Intn(9)]
	switch r.Intn(13) {
	case 0:
		n.Kind = api.NodeKind(r.Intn(16))
	case 1:
		n.Set = [][]api.Range{nil, row(1, 2), row(2, 1), row(-1, 1), row('a', 'b', 'x', top)}[r.Intn(5)]
	case 2:
		n.Kids = append(slices.Clone(n.Kids), number)
	case 3:
		n.Kids = slices.Clone(n.Kids)
		if len(n.Kids) > 0 {
			n.Kids[r.Intn(len(n.Kids))] += r.Intn(3) - 1
		}
	case 4:
		n.Group = number
	case 5:
		n.Min = number
	case 6:
		n.Max = number
	case 7:
		n.Mode = api.ModeKind(r.Intn(5))
	case 8:
		n.Spot = api.SpotKind(r.Intn(6))
	case 9:
		n.Not = !n.Not
	case 10:
		x.Names = append(x.Names, []string{"", "n", "nA", "7", "é"}[r.Intn(5)])
	case 11:
		x.Names = x.Names[:max(0, len(x.Names)-1)]
	case 12:
		if len(x.Names) > 0 {
			x.Names[r.Intn(len(x.Names))] = []string{"", "n", "nA", "7", "é"}[r.Intn(5)]
		}
	}
}

// TestBent: P11.1, R1, written trees in which one thing after the other is changed, held against the chapter's words.
func TestBent(t *testing.T) {
	t.Parallel()
	r := rand.New(rand.NewSource(111))
	many := map[api.Errno]int{}
	for range 8000 {
		x := someTree(r, 1+r.Intn(4))
		for range 3 {
			_, e := alike(t, x)
			many[e]++
			bend(r, &x)
		}
	}
	if many[api.OK] < 5000 || many[api.ErrArg] < 5000 {
		t.Error(many)
	}
}

// TestWrongAndLong: P11.1, R2, of both errors the first one.
func TestWrongAndLong(t *testing.T) {
	var kids []api.Tree
	for range 2001 {
		kids = append(kids, start())
	}
	x := seq(kids...)
	refuses(t, x, api.ErrLong)
	refuses(t, named(x, ""), api.ErrArg)
	refuses(t, seq(append(kids, spot(0))...), api.ErrArg)
	refuses(t, seq(append(kids, of(api.NodeFresh, empty()))...), api.ErrArg)
	refuses(t, seq(append([]api.Tree{group(1, start())}, kids...)...), api.ErrArg)
	refuses(t, named(seq(append([]api.Tree{group(1, start())}, kids...)...), "1"), api.ErrArg)
	refuses(t, named(seq(append([]api.Tree{group(1, start())}, kids...)...), "n"), api.ErrLong)
	refuses(t, named(group(1, start()), strings.Repeat("a", 2001)), api.ErrArg)
}
