package tree_test

import (
	"math"
	"math/rand"
	"slices"
	"testing"

	"tinder/api"
	"tinder/tree"
)

// TestExample: the chapter's example, (a)b.
func TestExample(t *testing.T) {
	a := tree.Join(api.Node{Kind: api.NodeSet, Set: []api.Range{{Lo: 'a', Hi: 'a'}}})
	b := tree.Join(api.Node{Kind: api.NodeSet, Set: []api.Range{{Lo: 'b', Hi: 'b'}}})
	first := tree.Join(api.Node{Kind: api.NodeGroup, Group: 1}, a)
	x := tree.Join(api.Node{Kind: api.NodeSeq}, first, b)
	want := []api.Node{
		{Kind: api.NodeSet, Set: []api.Range{{Lo: 'a', Hi: 'a'}}}, {Kind: api.NodeGroup, Group: 1, Kids: []int{0}}, {Kind: api.NodeSet, Set: []api.Range{{Lo: 'b', Hi: 'b'}}}, {Kind: api.NodeSeq, Kids: []int{1, 2}},
	}
	are(t, x, want)
	l := tree.Kids(x)
	if len(l) != 2 {
		t.Fatal(l)
	}
	are(t, l[0], want[:2])
	are(t, l[1], want[2:3])
	if tree.Right(x) || !tree.Right(named(x, "")) || tree.Deep(x) != 3 {
		t.Error(x)
	}
	if from, to := tree.Groups(x); from != 1 || to != 1 {
		t.Error(from, to)
	}
}

// TestJoin: P6.2, one tree behind the other, and the node behind all, without names.
func TestJoin(t *testing.T) {
	set := api.Node{Kind: api.NodeSet, Set: []api.Range{{Lo: 1, Hi: 2}, {Lo: 7, Hi: 9}}}
	repeat := api.Node{Kind: api.NodeRepeat, Min: 2, Max: 5, Mode: api.ModeLazy}
	spot := api.Node{Kind: api.NodeSpot, Spot: api.SpotWord}
	behind := api.Node{Kind: api.NodeBehind, Not: true}
	seq := api.Node{Kind: api.NodeSeq}
	with := func(n api.Node, kids ...int) api.Node {
		n.Kids = kids
		return n
	}
	a := tree.Join(set)
	are(t, a, []api.Node{set})
	b := tree.Join(repeat, named(a, "a"))
	are(t, b, []api.Node{set, with(repeat, 0)})
	c := tree.Join(seq, named(b, "b"), tree.Join(spot), named(a, "a"))
	are(t, c, []api.Node{set, with(repeat, 0), spot, set, with(seq, 1, 2, 3)})
	d := tree.Join(behind, c)
	are(t, d, []api.Node{set, with(repeat, 0), spot, set, with(seq, 1, 2, 3), with(behind, 4)})
	// The Kids that the node itself has are not asked.
	are(t, tree.Join(with(seq, 5, -1, 0), d, c, b), []api.Node{
		set, with(repeat, 0), spot, set, with(seq, 1, 2, 3), with(behind, 4),
		set, with(repeat, 6), spot, set, with(seq, 7, 8, 9),
		set, with(repeat, 11),
		with(seq, 5, 10, 12),
	})
	are(t, tree.Join(with(spot, 1, 2)), []api.Node{spot})
}

// TestJoinOfNone: P6.2, trees without nodes are no kids, wherever they stand.
func TestJoinOfNone(t *testing.T) {
	none := api.Tree{Names: []string{"a"}}
	n := api.Node{Kind: api.NodeAlt, Kids: []int{4}}
	for _, l := range [][]api.Tree{nil, {}, {none}, {none, none, {}}} {
		are(t, tree.Join(n, l...), []api.Node{{Kind: api.NodeAlt}}, l)
	}
	x := chain(2)
	for _, l := range [][]api.Tree{{x, x}, {none, x, x}, {x, none, x}, {x, x, none}, {none, x, none, none, x, none}} {
		are(t, tree.Join(n, l...), []api.Node{x.Nodes[0], x.Nodes[1], x.Nodes[0], {Kind: api.NodeAtomic, Kids: []int{2}}, {Kind: api.NodeAlt, Kids: []int{1, 3}}}, l)
	}
}

// TestJoinOfAnything: P6.2, trees that are not in order, nodes of no kind: whether it is in order is not asked, and nothing else of a node is changed.
func TestJoinOfAnything(t *testing.T) {
	odd := api.Node{Kind: 200, Set: []api.Range{{Lo: 9, Hi: 7}, {Lo: -4, Hi: 1 << 40}}, Kids: []int{-1, 5, 0, 5}, Group: math.MinInt, Min: math.MaxInt, Max: math.MinInt, Mode: 255, Spot: 254, Not: true}
	x := named(api.Tree{Nodes: []api.Node{odd, {}, odd}}, "0", "0")
	with := func(kids ...int) api.Node {
		n := odd
		n.Kids = kids
		return n
	}
	are(t, tree.Join(odd), []api.Node{with()})
	are(t, tree.Join(odd, x), []api.Node{odd, {}, odd, with(2)})
	are(t, tree.Join(odd, empty(), x, x), []api.Node{{Kind: api.NodeEmpty}, with(0, 6, 1, 6), {}, with(0, 6, 1, 6), with(3, 9, 4, 9), {}, with(3, 9, 4, 9), with(0, 3, 6)})
	// Kids at the ends of int.
	ends := api.Tree{Nodes: []api.Node{with(math.MaxInt-2, math.MinInt, -2)}}
	are(t, tree.Join(odd, empty(), empty(), ends), []api.Node{{Kind: api.NodeEmpty}, {Kind: api.NodeEmpty}, with(math.MaxInt, math.MinInt+2, 0), with(0, 1, 2)})
	are(t, tree.Join(odd, ends, empty()), []api.Node{ends.Nodes[0], {Kind: api.NodeEmpty}, with(0, 1)})
	ends.Nodes[0].Kids[0] = math.MaxInt
	if got := tree.Join(odd, empty(), ends); len(got.Nodes) != 3 || tree.Deep(got) != 0 {
		t.Error(got)
	}
	// More nodes than a tree in order has.
	if got := tree.Join(odd, wide(4000), wide(4001)); len(got.Nodes) != 8002 || !slices.Equal(got.Nodes[8001].Kids, []int{3999, 8000}) || got.Nodes[8000].Kids[0] != 4000 || tree.Deep(got) != 0 {
		t.Error(len(got.Nodes))
	}
}

// TestOf: P6.3, what each node covers, and none of places that are none.
func TestOf(t *testing.T) {
	x := named(bare(nil, nil, []int{0, 1}, nil, []int{3}, []int{4}, []int{2, 5}), "a")
	e := api.Node{Kind: api.NodeEmpty}
	atomic := func(kid int) api.Node { return api.Node{Kind: api.NodeAtomic, Kids: []int{kid}} }
	seq := api.Node{Kind: api.NodeSeq, Kids: []int{0, 1}}
	for at, want := range [][]api.Node{{e}, {e}, {e, e, seq}, {e}, {e, atomic(0)}, {e, atomic(0), atomic(1)}, x.Nodes} {
		are(t, tree.Of(x, at), want, at)
	}
	for _, at := range []int{-1, -2, 7, 8, 9, 4000, math.MaxInt, math.MinInt} {
		are(t, tree.Of(x, at), nil, at)
		are(t, tree.Of(api.Tree{}, at), nil, at)
	}
	are(t, tree.Of(api.Tree{}, 0), nil)
	l := tree.Kids(x)
	if len(l) != 2 {
		t.Fatal(l)
	}
	are(t, l[0], []api.Node{e, e, seq})
	are(t, l[1], []api.Node{e, atomic(0), atomic(1)})
	if got := tree.Kids(empty()); len(got) > 0 {
		t.Error(got)
	}
	if got := tree.Kids(api.Tree{}); len(got) > 0 {
		t.Error(got)
	}
}

// TestGroups: P6.3, the least and the greatest group, whether in order or not.
func TestGroups(t *testing.T) {
	const top, low = math.MaxInt, math.MinInt
	for _, x := range []struct {
		groups   []int
		from, to int
	}{
		{nil, 0, 0}, {[]int{1}, 1, 1}, {[]int{7}, 7, 7}, {[]int{0}, 0, 0}, {[]int{-3}, -3, -3}, {[]int{1, 2, 3}, 1, 3}, {[]int{3, 2, 1}, 1, 3}, {[]int{2, 3, 1}, 1, 3}, {[]int{5, 5}, 5, 5}, {[]int{2, 9}, 2, 9}, {[]int{0, 4}, 0, 4}, {[]int{-7, -4}, -7, -4},
		{[]int{top}, top, top}, {[]int{low}, low, low}, {[]int{top, low}, low, top}, {[]int{4, top, 3}, 3, top}, {[]int{4, low, 3}, low, 4},
	} {
		var l []api.Tree
		var loose []api.Node
		for _, n := range x.groups {
			l = append(l, group(n, empty(), above(api.Node{Kind: api.NodeBack, Group: 100})))
			loose = append(loose, api.Node{Kind: api.NodeBack, Group: -100}, api.Node{Kind: api.NodeGroup, Group: n, Kids: []int{77, -1}}, api.Node{Kind: api.NodeFresh, Group: 1000})
		}
		for _, x2 := range []api.Tree{above(api.Node{Kind: api.NodeSeq, Group: 50}, l...), {Nodes: loose}, named(api.Tree{Nodes: loose}, "a", "b")} {
			if from, to := tree.Groups(x2); from != x.from || to != x.to {
				t.Error(x.groups, from, to)
			}
		}
	}
	if from, to := tree.Groups(named(api.Tree{}, "a")); from != 0 || to != 0 {
		t.Error(from, to)
	}
	// The last node counts as all others do, and so does one beyond the limit.
	if from, to := tree.Groups(group(2, group(5))); from != 2 || to != 5 {
		t.Error(from, to)
	}
	far := make([]api.Node, 100000)
	far[99999] = api.Node{Kind: api.NodeGroup, Group: 6}
	far[0] = api.Node{Kind: api.NodeGroup, Group: 8}
	if from, to := tree.Groups(api.Tree{Nodes: far}); from != 6 || to != 8 {
		t.Error(from, to)
	}
}

// TestFollows: P6.4, a tree in order is the Join of its last node and its Kids, and Kids of Join are these.
func TestFollows(t *testing.T) {
	r := rand.New(rand.NewSource(64))
	for range 2000 {
		var l []api.Tree
		for range r.Intn(5) {
			l = append(l, some(r, 1+r.Intn(4)))
		}
		n := api.Node{Kind: api.NodeKind(r.Intn(20)), Kids: []int{r.Intn(9)}, Group: r.Intn(3)}
		x := tree.Join(n, l...)
		are(t, x, above(n, l...).Nodes, n, l)
		got := tree.Kids(x)
		if len(got) != len(l) {
			t.Fatal(x, got)
		}
		for i := range got {
			are(t, got[i], l[i].Nodes, x, i)
		}
		are(t, tree.Join(x.Nodes[len(x.Nodes)-1], got...), x.Nodes)
		follows(t, x)
	}
	follows(t, chain(4000))
	follows(t, wide(4000))
}

// follows fails unless the trees of a tree are all what follows of the promises.
func follows(t *testing.T, x api.Tree) {
	t.Helper()
	last := len(x.Nodes) - 1
	are(t, tree.Of(x, last), x.Nodes)
	l := tree.Kids(x)
	are(t, tree.Join(x.Nodes[last], l...), x.Nodes)
	deepest := 0
	for i, kid := range x.Nodes[last].Kids {
		are(t, l[i], tree.Of(x, kid).Nodes, x, i)
		deepest = max(deepest, tree.Deep(l[i]))
	}
	if tree.Deep(x) != deepest+1 {
		t.Fatal(x, deepest)
	}
}
