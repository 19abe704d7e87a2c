package tree_test

import (
	"math"
	"math/rand"
	"slices"
	"testing"

	"tinder/api"
	"tinder/tree"
)

// ordered fails unless all calls tell alike that a bare tree is in order, and so deep; 0 of one that is not in order.
func ordered(t *testing.T, x api.Tree, deep int) {
	t.Helper()
	is := deep > 0
	if tree.Right(x) != is || tree.Spread(x) != is || tree.Deep(x) != deep {
		t.Fatal(x, tree.Right(x), tree.Spread(x), tree.Deep(x), deep)
	}
	many := 0
	for at, n := range x.Nodes {
		if got := tree.Of(x, at); (len(got.Nodes) > 0) != is {
			t.Fatal(x, at, got)
		}
		many = len(n.Kids)
	}
	if got := tree.Kids(x); is && len(got) != many || !is && len(got) > 0 {
		t.Fatal(x, got)
	}
}

// TestOrder: P6.1, P6.3, trees in order, and such as are not.
func TestOrder(t *testing.T) {
	const top, low = math.MaxInt, math.MinInt
	for _, x := range []struct {
		kids [][]int
		deep int
	}{
		{[][]int{nil}, 1},
		{[][]int{nil, {0}}, 2},
		{[][]int{nil, {0}, {1}}, 3},
		{[][]int{nil, nil, {0, 1}}, 2},
		{[][]int{nil, nil, nil, {0, 1, 2}}, 2},
		{[][]int{nil, nil, {0, 1}, {2}}, 3},
		{[][]int{nil, nil, {1}, {0, 2}}, 3},
		{[][]int{nil, {0}, nil, {1, 2}}, 3},
		{[][]int{nil, {0}, {1}, nil, {2, 3}}, 4},
		{[][]int{nil, nil, {1}, {2}, {0, 3}}, 4},
		{[][]int{nil, nil, {1}, {2}, nil, {0, 3, 4}}, 4},
		{[][]int{nil, nil, {0, 1}, nil, nil, nil, {3, 4, 5}, {2, 6}}, 3},
		{[][]int{nil, nil, {0, 1}, nil, nil, {2, 3, 4}, nil, {5, 6}}, 4},
		// No nodes; a last node that does not cover all.
		{nil, 0},
		{[][]int{nil, nil}, 0}, {[][]int{nil, nil, {1}}, 0}, {[][]int{nil, {0}, nil}, 0}, {[][]int{nil, nil, nil, {1, 2}}, 0}, {[][]int{nil, nil, {0, 1}, nil}, 0}, {[][]int{nil, {0}, nil, nil, {2, 3}}, 0},
		// Kids that do not stand directly ahead of each other, or of the node.
		{[][]int{nil, nil, {0}}, 0}, {[][]int{nil, nil, nil, {0, 2}}, 0}, {[][]int{nil, nil, nil, {0, 1}}, 0}, {[][]int{nil, nil, {1, 0}}, 0}, {[][]int{nil, nil, nil, {0, 2, 1}}, 0},
		{[][]int{nil, nil, nil, {2, 1, 0}}, 0}, {[][]int{nil, nil, nil, {1, 0, 2}}, 0}, {[][]int{nil, nil, {0, 1}, nil, {1, 3}}, 0}, {[][]int{nil, nil, {1}, {1, 2}}, 0}, {[][]int{nil, nil, {1}, {0, 1, 2}}, 0},
		// Kids that stand twice, or that two nodes have.
		{[][]int{nil, {0, 0}}, 0}, {[][]int{nil, nil, {0, 1, 1}}, 0}, {[][]int{nil, nil, {0, 0, 1}}, 0}, {[][]int{nil, {0}, {0, 1}}, 0}, {[][]int{nil, {0}, {0}}, 0}, {[][]int{nil, {0}, {0}, {1, 2}}, 0},
		{[][]int{nil, {0}, {0}, {2}}, 0}, {[][]int{nil, nil, {0, 1}, {1, 2}}, 0}, {[][]int{nil, nil, {0, 1}, {0, 1, 2}}, 0}, {[][]int{nil, nil, {0, 1}, {0, 1}}, 0},
		// Kids that are their node, that stand behind it, or that are no places.
		{[][]int{{0}}, 0}, {[][]int{{1}, nil}, 0}, {[][]int{{1}, {0}}, 0}, {[][]int{nil, {1}}, 0}, {[][]int{nil, {0, 1}}, 0}, {[][]int{nil, {2}, {1}}, 0}, {[][]int{{2}, nil, {0, 1}}, 0},
		{[][]int{{-1}}, 0}, {[][]int{nil, {-1}}, 0}, {[][]int{nil, {-1, 0}}, 0}, {[][]int{nil, {0, -1}}, 0}, {[][]int{nil, nil, {-1, 0, 1}}, 0}, {[][]int{{-1}, {0}}, 0}, {[][]int{nil, {-2, -1, 0}}, 0},
		{[][]int{nil, {2}}, 0}, {[][]int{nil, nil, {0, 1, 3}}, 0}, {[][]int{nil, {low}}, 0}, {[][]int{nil, {top}}, 0}, {[][]int{nil, {low, 0}}, 0}, {[][]int{nil, {0, top}}, 0}, {[][]int{{low}}, 0}, {[][]int{{top}}, 0},
		{[][]int{nil, nil, {top, 1}}, 0}, {[][]int{nil, nil, {low, 1}}, 0}, {[][]int{nil, nil, {low, 0, 1}}, 0}, {[][]int{nil, nil, {top, 0, 1}}, 0},
		// One that is wrong below, and nothing else.
		{[][]int{nil, nil, {0}, {2}}, 0}, {[][]int{nil, nil, nil, {0, 2}, {3}}, 0}, {[][]int{nil, {1}, {1}}, 0}, {[][]int{{0}, {0}, {1}}, 0},
	} {
		ordered(t, bare(x.kids...), x.deep)
		asTold(t, bare(x.kids...))
	}
}

// lists are all rows of up to so many numbers from low to high.
func lists(most, low, high int) [][]int {
	out := [][]int{nil}
	for from := 0; most > 0; most-- {
		next := out[from:]
		from = len(out)
		for _, l := range next {
			for x := low; x <= high; x++ {
				out = append(out, append(slices.Clone(l), x))
			}
		}
	}
	return out
}

// TestOrderOfAll: P6.1, all kids of small trees; and of so many nodes there are as many trees in order as there are trees.
func TestOrderOfAll(t *testing.T) {
	l := lists(2, -1, 3)
	for _, a := range l {
		for _, b := range l {
			for _, c := range l {
				told(t, bare(a, b, c))
			}
		}
	}
	for n, want := range []int{0, 1, 1, 2, 5, 14} {
		if n > 0 && trees(t, n, nil) != want {
			t.Error(n)
		}
	}
}

// told holds a bare tree against the chapter's words: whether it is in order.
func told(t *testing.T, x api.Tree) bool {
	t.Helper()
	if !inOrder(x.Nodes) {
		ordered(t, x, 0)
		return false
	}
	ordered(t, x, depth(x.Nodes, len(x.Nodes)-1))
	return true
}

// trees are how many trees in order of so many nodes begin with some kids, which stand where they must.
func trees(t *testing.T, n int, kids [][]int) int {
	count := 0
	for _, l := range lists(n-1, -1, n) {
		more := append(slices.Clone(kids), l)
		if x := bare(more...); len(more) == n && told(t, x) {
			count++
		} else if len(more) < n && stand(x.Nodes) {
			count += trees(t, n, more)
		}
	}
	return count
}

// TestManyNodes: P6.1, P6.3, 4000 nodes and one more.
func TestManyNodes(t *testing.T) {
	for n := 3998; n <= 4002; n++ {
		x := wide(n)
		if is := n <= 4000; tree.Right(x) != is || tree.Spread(x) != is || (tree.Deep(x) == 2) != is || !is && tree.Deep(x) != 0 {
			t.Error(n, tree.Right(x), tree.Spread(x), tree.Deep(x))
		}
		if l := tree.Kids(x); n <= 4000 && len(l) != n-1 || n > 4000 && len(l) > 0 {
			t.Error(n, len(l))
		}
		if l := tree.Of(x, n-1).Nodes; n <= 4000 && len(l) != n || n > 4000 && len(l) > 0 {
			t.Error(n, len(l))
		}
		if l := tree.Of(x, 7).Nodes; n <= 4000 && len(l) != 1 || n > 4000 && len(l) > 0 {
			t.Error(n, len(l))
		}
	}
	asTold(t, wide(200))
	x := wide(4000)
	x.Nodes[3999].Kind = api.NodeAlt
	if !tree.Right(x) || !tree.Spread(x) {
		t.Error("choices")
	}
}

// TestDeep: P6.1, 60 deep and one deeper: a written tree is no deeper, a spread one may be.
func TestDeep(t *testing.T) {
	for _, n := range []int{1, 2, 3, 58, 59, 60, 61, 62, 300, 3999, 4000} {
		if x := chain(n); tree.Right(x) != (n <= 60) || !tree.Spread(x) || tree.Deep(x) != n {
			t.Error(n, tree.Right(x), tree.Spread(x), tree.Deep(x))
		}
	}
	if x := chain(4001); tree.Right(x) || tree.Spread(x) || tree.Deep(x) != 0 {
		t.Error("too many")
	}
	for _, n := range []int{58, 59, 60, 61} {
		seq := api.Node{Kind: api.NodeSeq}
		for _, x := range []api.Tree{
			above(seq, chain(n), empty()), above(seq, empty(), chain(n)), above(seq, empty(), chain(n), empty()), above(seq, chain(n), chain(n)), above(seq, chain(n), chain(n-1), chain(2)), above(seq, chain(3), chain(n-1), chain(n)),
		} {
			if tree.Deep(x) != n+1 || tree.Right(x) != (n < 60) || !tree.Spread(x) {
				t.Error(n, tree.Deep(x), tree.Right(x))
			}
		}
	}
}

// TestDeepOfAnyKinds: P6.1, how deep a tree is hangs on its order alone, neither on its kinds nor on its names.
func TestDeepOfAnyKinds(t *testing.T) {
	x := named(bare(nil, nil, []int{0, 1}), "1", "1")
	for kind := range api.NodeKind(20) {
		x.Nodes[2].Kind = kind
		x.Nodes[0] = api.Node{Kind: kind, Set: []api.Range{{Lo: 9, Hi: 7}}, Group: math.MinInt, Min: math.MaxInt, Max: math.MinInt, Mode: 255, Spot: 255, Not: true}
		if tree.Deep(x) != 2 || len(tree.Kids(x)) != 2 || len(tree.Of(x, 2).Nodes) != 3 || tree.Right(x) || tree.Spread(x) {
			t.Error(kind, tree.Deep(x))
		}
		are(t, tree.Of(x, 0), x.Nodes[:1])
		are(t, tree.Of(x, 2), x.Nodes)
	}
}

// TestTreesOfAllSorts: P6.1, P6.3, trees of no special order, whole, and with one thing changed, held against the chapter's words.
func TestTreesOfAllSorts(t *testing.T) {
	r := rand.New(rand.NewSource(6))
	seen := map[[2]bool]int{}
	for range 20000 {
		x := some(r, 2+r.Intn(3))
		asTold(t, x)
		seen[[2]bool{tree.Right(x), tree.Spread(x)}]++
		change(r, &x)
		asTold(t, x)
		seen[[2]bool{tree.Right(x), tree.Spread(x)}]++
	}
	if len(seen) != 4 {
		t.Error(seen)
	}
}

// change changes one thing of a tree.
func change(r *rand.Rand, x *api.Tree) {
	n := &x.Nodes[r.Intn(len(x.Nodes))]
	number := []int{-1, 0, 1, 2, 3, 1000, 1001, math.MaxInt, math.MinInt}[r.Intn(9)]
	switch r.Intn(13) {
	case 0:
		n.Kind = api.NodeKind(r.Intn(16))
	case 1:
		n.Set = [][]api.Range{nil, {{Lo: 1, Hi: 2}}, {{Lo: 2, Hi: 1}}, {{Lo: -1, Hi: 1}}}[r.Intn(4)]
	case 2:
		n.Kids = append(n.Kids, number)
	case 3:
		if len(n.Kids) > 0 {
			n.Kids[r.Intn(len(n.Kids))] += r.Intn(3) - 1
		}
	case 4:
		n.Group = number
	case 5:
		n.Min = number
	case 6:
		n.Max = number
	case 7:
		n.Mode = api.ModeKind(r.Intn(5))
	case 8:
		n.Spot = api.SpotKind(r.Intn(6))
	case 9:
		n.Not = !n.Not
	case 10:
		x.Names = append(x.Names, []string{"", "n", "nA", "7", "é"}[r.Intn(5)])
	case 11:
		x.Names = x.Names[:max(0, len(x.Names)-1)]
	case 12:
		x.Nodes = x.Nodes[:len(x.Nodes)-1]
	}
}
