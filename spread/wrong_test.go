package spread_test

import (
	"math/rand"
	"slices"
	"strings"
	"testing"

	"tinder/api"
	"tinder/tree"
)

// refuses fails unless a tree is told to be none.
func refuses(t *testing.T, x api.Tree) {
	t.Helper()
	if got := alike(t, x); !got.same(answer{e: api.ErrShape}) {
		t.Errorf("%s: %s", shown(x), shown(got))
	}
}

// TestWrong: P13.1, P13.2, R1, R2, of what is not written nothing is told, be it spread or neither.
func TestWrong(t *testing.T) {
	a, node := a(), func(n api.Node, kids ...api.Tree) api.Tree { return tree.Join(n, kids...) }
	name := strings.Repeat("a", 41)
	for _, x := range []api.Tree{
		// Nodes that are none, or not in order.
		{}, {Nodes: []api.Node{}}, {Names: []string{""}}, {Nodes: []api.Node{{}}}, {Nodes: slices.Concat(a.Nodes, a.Nodes)},
		{Nodes: []api.Node{{Kind: api.NodeAtomic, Kids: []int{0}}}}, {Nodes: []api.Node{{Kind: api.NodeAtomic, Kids: []int{1}}, a.Nodes[0]}}, {Nodes: []api.Node{a.Nodes[0], {Kind: api.NodeAtomic, Kids: []int{-1}}}}, {Nodes: []api.Node{a.Nodes[0], {Kind: api.NodeAtomic, Kids: []int{highest}}}}, {Nodes: []api.Node{a.Nodes[0], {Kind: api.NodeAtomic, Kids: []int{lowest}}}},
		{Nodes: []api.Node{{Kind: api.NodeRepeat, Kids: []int{0}, Max: 2, Mode: greedy}}}, {Nodes: []api.Node{a.Nodes[0], {Kind: api.NodeRepeat, Kids: []int{1}, Max: 2, Mode: greedy}}}, {Nodes: []api.Node{a.Nodes[0], {Kind: api.NodeRepeat, Kids: []int{2}, Max: 2, Mode: greedy}, a.Nodes[0]}},
		{Nodes: []api.Node{a.Nodes[0], {Kind: api.NodeSeq, Kids: []int{0, 0}}}}, {Nodes: []api.Node{a.Nodes[0], a.Nodes[0], {Kind: api.NodeAlt, Kids: []int{1, 0}}}}, {Nodes: []api.Node{a.Nodes[0], a.Nodes[0], {Kind: api.NodeAtomic, Kids: []int{1}}}},
		// Nodes that are of no kind.
		node(api.Node{}, a), node(api.Node{Kind: 14}), node(api.Node{Kind: 255}), node(api.Node{Kind: api.NodeEmpty}, a), node(api.Node{Kind: api.NodeEmpty, Not: true}), set(3, 1), set(-1, 1), set(0, top+1), set(1, 1, 2, 2), set(4, 5, 1, 2), seq(), seq(a), alt(), alt(a),
		of(api.NodeAtomic), of(api.NodeAtomic, a, a), of(api.NodeAhead), of(api.NodeBehind), of(api.NodeBehind, a, a), of(api.NodeGroup, a), of(api.NodeRepeat), of(api.NodeRepeat, a), repeat(2, 1, greedy, a), repeat(1, 0, greedy, a), repeat(-1, 1, greedy, a), repeat(-1, -1, greedy, a), repeat(0, -2, greedy, a), repeat(0, 1001, greedy, a), repeat(1001, -1, greedy, a), repeat(1001, 1001, greedy, a), repeat(0, 1, 0, a), repeat(0, 1, 4, a), repeat(0, 1, 255, a), repeat(highest, highest, lazy, a), repeat(lowest, lowest, lazy, a), repeat(0, lowest, greedy, a), repeat(lowest, highest, greedy, a), repeat(0, highest, own, a), repeat(highest, -1, own, a),
		node(api.Node{Kind: api.NodeRepeat, Max: 1, Mode: greedy}), node(api.Node{Kind: api.NodeRepeat, Max: 1, Mode: greedy}, a, a), node(api.Node{Kind: api.NodeRepeat, Max: 1, Mode: greedy, Not: true}, a), node(api.Node{Kind: api.NodeRepeat, Max: 1, Mode: greedy, Group: 1}, a), node(api.Node{Kind: api.NodeRepeat, Max: 1, Mode: greedy, Spot: 1}, a), node(api.Node{Kind: api.NodeRepeat, Max: 1, Mode: greedy, Set: row(1, 2)}, a),
		spot(0), spot(5), spot(255), node(api.Node{Kind: api.NodeSpot, Spot: 1, Group: 1}), node(api.Node{Kind: api.NodeSet, Max: -1}), node(api.Node{Kind: api.NodeSeq, Mode: greedy}, a, a), node(api.Node{Kind: api.NodeBehind, Min: 1}, a),
		// Kinds that only spread trees have, right and wrong ones.
		fresh(a), try(greedy, a), try(lazy, a, a), fresh(star(a)), try(greedy, star(a), fresh(a)),
		of(api.NodeTry, a), of(api.NodeTry), try(own, a), try(greedy, a, a, a), of(api.NodeFresh), of(api.NodeFresh, a, a), fresh(repeat(1, 1, greedy, a)), seq(fresh(a), repeat(0, -1, own, a)), try(lazy, a, repeat(0, 1, lazy, a)),
		// Groups and names that are not those of one another.
		group(1, a), named(group(2, a), ""), named(group(0, a), ""), named(group(-1, a), ""), named(group(highest, a), ""), named(group(2, group(3, a)), "", ""), named(a, ""), named(a, "n"), named(group(1, a), "", ""), named(seq(group(2, a), group(1, a)), "", ""), named(group(2, group(1, a)), "", ""),
		back(0), back(1), back(-1), named(back(2), ""), named(seq(group(1, a), back(2)), ""), named(seq(group(1, a), back(0)), ""), named(seq(group(1, a), back(-1)), ""), named(seq(group(1, a), back(lowest)), ""), named(seq(group(1, a), back(highest)), ""),
		named(group(1, a), "1"), named(group(1, a), "a b"), named(group(1, a), "é"), named(group(1, a), "a\x00"), named(group(1, a), "\xFF"), named(group(1, a), name), named(seq(group(1, a), group(2, a)), "n", "n"),
		named(alt(group(1, a), a), slices.Repeat([]string{""}, 21)...),
	} {
		refuses(t, x)
		// One that is wrong below makes all wrong; so it is where nothing of it would be left, and where there would be far too much.
		if len(x.Nodes) > 0 {
			refuses(t, named(atomic(x), x.Names...))
			refuses(t, named(times(0, x), x.Names...))
			refuses(t, named(behind(false, x), x.Names...))
			refuses(t, named(seq(start(), times(2, x), start()), x.Names...))
			refuses(t, named(times(1000, times(1000, seqs(7, x))), x.Names...))
		}
	}
}

// TestShapeFirst: R2, what is not written, and too great, is not written.
func TestShapeFirst(t *testing.T) {
	great := times(1000, times(1000, a()))
	sized(t, great, 4001)
	for _, x := range []api.Tree{fresh(great), try(lazy, great, a()), named(great, ""), group(1, great), seq(great, back(1)), seq(great, set(2, 1)), seq(set(2, 1), great), repeat(2, 1, greedy, great), {Nodes: append(slices.Clone(great.Nodes), great.Nodes...)}} {
		refuses(t, x)
	}
}

// bend changes one thing of a tree.
func bend(r *rand.Rand, x *api.Tree) {
	n := &x.Nodes[r.Intn(len(x.Nodes))]
	number := pick(r, -1, 0, 1, 2, 3, 1000, 1001, highest, lowest)
	switch r.Intn(13) {
	case 0:
		n.Kind = api.NodeKind(r.Intn(16))
	case 1:
		n.Set = pick(r, nil, row(1, 2), row(2, 1), row(-1, 1), row('a', 'b', 'x', top))
	case 2:
		n.Kids = append(slices.Clone(n.Kids), number)
	case 3:
		n.Kids = slices.Clone(n.Kids)
		if len(n.Kids) > 0 {
			n.Kids[r.Intn(len(n.Kids))] += r.Intn(3) - 1
		}
	case 4:
		n.Group = number
	case 5:
		n.Min = number
	case 6:
		n.Max = number
	case 7:
		n.Mode = api.ModeKind(r.Intn(5))
	case 8:
		n.Spot = api.SpotKind(r.Intn(6))
	case 9:
		n.Not = !n.Not
	case 10:
		x.Names = append(x.Names, pick(r, "", "n", "nA", "7", "é"))
	case 11:
		x.Names = x.Names[:max(0, len(x.Names)-1)]
	case 12:
		if len(x.Names) > 0 {
			x.Names[r.Intn(len(x.Names))] = pick(r, "", "n", "nA", "7", "é")
		}
	}
}

// TestBent: P13.1, P13.2, R1, R2, trees in which one thing after the other is changed, held against the chapter's words.
func TestBent(t *testing.T) {
	t.Parallel()
	r := rand.New(rand.NewSource(134))
	right, wrong := 0, 0
	for range 5000 {
		x := someTree(r, 1+r.Intn(4))
		for range 3 {
			got := alike(t, x)
			right += count(got.e == api.OK)
			wrong += count(got.e == api.ErrShape)
			bend(r, &x)
		}
	}
	if right < 5000 || wrong < 4000 {
		t.Error(right, wrong)
	}
}

// TestGreat: R1, R7, very great trees, rows and texts come to an end.
func TestGreat(t *testing.T) {
	const n = 1 << 18
	ranges, kids := make([]api.Range, n), make([]int, n)
	for i := range n {
		ranges[i], kids[i] = api.Range{Lo: 3 * i, Hi: 3 * i}, i
	}
	name := strings.Repeat("a", 1<<24)
	deep := a()
	for range n {
		deep.Nodes = append(deep.Nodes, api.Node{Kind: api.NodeRepeat, Min: 2, Max: 2, Mode: lazy, Kids: []int{len(deep.Nodes) - 1}})
	}
	for i, x := range []api.Tree{
		{Nodes: make([]api.Node, n)}, {Nodes: []api.Node{{Kind: api.NodeSet, Set: ranges}}}, {Nodes: []api.Node{{Kind: api.NodeSeq, Kids: kids}}}, {Nodes: []api.Node{{Kind: api.NodeEmpty}}, Names: make([]string, n)}, named(group(1, start()), name), named(seq(group(1, start()), back(1)), name), seqs(n, a()), deep,
	} {
		if got := answerOf(x); !got.same(answer{e: api.ErrShape}) {
			t.Error(i, shown(got))
		}
	}
}
