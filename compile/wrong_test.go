package compile_test

import (
	"math"
	"math/rand"
	"slices"
	"strings"
	"testing"

	"tinder/api"
	"tinder/spread"
	"tinder/tree"
)

// wrongTrees are trees that are not written, for a reason of each sort.
func wrongTrees() []api.Tree {
	a, node := a(), func(n api.Node, kids ...api.Tree) api.Tree { return tree.Join(n, kids...) }
	kids := func(kind api.NodeKind, kids ...int) api.Node { return api.Node{Kind: kind, Kids: kids} }
	one, lowest, highest := a.Nodes[0], math.MinInt, math.MaxInt
	return []api.Tree{
		{}, {Nodes: []api.Node{}}, {Names: []string{""}}, {Nodes: []api.Node{{}}}, {Nodes: []api.Node{one, one}},
		{Nodes: []api.Node{kids(api.NodeAtomic, 0)}}, {Nodes: []api.Node{kids(api.NodeAtomic, 1), one}}, {Nodes: []api.Node{one, kids(api.NodeAtomic, -1)}}, {Nodes: []api.Node{one, kids(api.NodeAtomic, 1)}}, {Nodes: []api.Node{one, kids(api.NodeAtomic, lowest)}}, {Nodes: []api.Node{one, kids(api.NodeAtomic, highest)}},
		{Nodes: []api.Node{one, kids(api.NodeSeq, 0, 0)}}, {Nodes: []api.Node{one, one, kids(api.NodeAlt, 1, 0)}}, {Nodes: []api.Node{one, one, kids(api.NodeAtomic, 1)}}, {Nodes: []api.Node{one, one, kids(api.NodeSeq, 0, 2)}},
		node(api.Node{}, a), node(api.Node{Kind: 14}), node(api.Node{Kind: 255}), node(api.Node{Kind: api.NodeEmpty}, a), node(api.Node{Kind: api.NodeEmpty, Not: true}), node(api.Node{Kind: api.NodeSet}, a), node(api.Node{Kind: api.NodeSet, Spot: 1}),
		set(api.Range{Lo: 3, Hi: 1}), set(api.Range{Lo: -1, Hi: 1}), set(api.Range{Lo: 0, Hi: api.MaxPoint + 1}), set(api.Range{Lo: 1, Hi: 1}, api.Range{Lo: 2, Hi: 2}),
		of(api.NodeSeq), of(api.NodeSeq, a), of(api.NodeAlt), of(api.NodeAlt, a), of(api.NodeAtomic), of(api.NodeAtomic, a, a), of(api.NodeAhead), of(api.NodeBehind, a, a), of(api.NodeRepeat), of(api.NodeRepeat, a),
		repeat(2, 1, greedy, a), repeat(-1, 1, greedy, a), repeat(0, -2, greedy, a), repeat(0, 1001, greedy, a), repeat(1001, -1, greedy, a), repeat(0, -1, 0, a), repeat(0, -1, 4, a), repeat(lowest, highest, lazy, a), repeat(highest, -1, own, a),
		spot(0), spot(5), spot(255), node(api.Node{Kind: api.NodeSpot, Spot: 1, Group: 1}), node(api.Node{Kind: api.NodeSeq, Mode: lazy}, a, a), node(api.Node{Kind: api.NodeAlt, Mode: lazy}, a, a),
		// What only spread trees have.
		of(api.NodeFresh, a), node(api.Node{Kind: api.NodeTry, Mode: greedy}, a), node(api.Node{Kind: api.NodeTry, Mode: lazy}, a, a), of(api.NodeTry, a), of(api.NodeFresh),
		// Groups and names that are not those of one another.
		group(1, a), named(group(2, a), ""), named(group(0, a), ""), named(group(-1, a), ""), named(group(highest, a), ""), named(a, ""), named(group(1, a), "", ""), named(of(api.NodeSeq, group(2, a), group(1, a)), "", ""), named(group(2, group(1, a)), "", ""),
		back(0), back(1), named(back(1), ""), named(of(api.NodeSeq, group(1, a), back(2)), ""), named(of(api.NodeSeq, group(1, a), back(0)), ""), named(of(api.NodeSeq, group(1, a), back(lowest)), ""), named(of(api.NodeSeq, group(1, a), back(highest)), ""),
		named(group(1, a), "1"), named(group(1, a), "a b"), named(group(1, a), "\xFF"), named(group(1, a), strings.Repeat("a", 41)), named(of(api.NodeSeq, group(1, a), group(2, a)), "n", "n"),
	}
}

// TestWrong: P15.1, R1, of what is not written nothing is told, whatever else is given.
func TestWrong(t *testing.T) {
	for _, x := range wrongTrees() {
		refuses(t, x)
		for flags := range allFlags() {
			if got := alike(t, x, flags, folds(0x17F, 's')); got.e != api.ErrShape {
				t.Error(shown(x), shown(got))
			}
		}
		// One that is wrong below makes all wrong; so it is where nothing of it would be left.
		if len(x.Nodes) > 0 {
			refuses(t, named(of(api.NodeAtomic, x), x.Names...))
			refuses(t, named(times(0, x), x.Names...))
			refuses(t, named(of(api.NodeSeq, a(), x, a()), x.Names...))
		}
	}
}

// TestShapeFirst: R2, what is not written, and too great, is not written.
func TestShapeFirst(t *testing.T) {
	for _, great := range []api.Tree{times(1000, times(1000, a())), seqs(3000, a()), times(1000, of(api.NodeAlt, a(), a()))} {
		if got := plainly(t, great); got.e != api.ErrSize {
			t.Fatal(shown(got))
		}
		for _, x := range []api.Tree{of(api.NodeFresh, great), named(great, ""), group(1, great), of(api.NodeSeq, great, back(1)), of(api.NodeSeq, set(api.Range{Lo: 2, Hi: 1}), great), repeat(2, 1, greedy, great), {Nodes: append(slices.Clone(great.Nodes), great.Nodes...)}} {
			refuses(t, x)
		}
	}
}

// bend gives a node something of another one, which may be such as no tree has, or changes the names.
func bend(r *rand.Rand, x *api.Tree) {
	odd := api.Node{Kind: api.NodeKind(r.Intn(16)), Kids: []int{r.Intn(4) - 1}, Set: []api.Range{{Lo: 2, Hi: r.Intn(4)}}, Group: math.MinInt, Min: math.MaxInt, Max: math.MinInt, Mode: 7, Spot: 9}
	n, other := &x.Nodes[r.Intn(len(x.Nodes))], pick(r, pick(r, x.Nodes...), odd)
	switch r.Intn(7) {
	case 0:
		*n = other
	case 1:
		n.Kind = other.Kind
	case 2:
		n.Kids = other.Kids
	case 3:
		n.Set, n.Spot = other.Set, other.Spot
	case 4:
		n.Group, n.Not = other.Group, !n.Not
	case 5:
		n.Min, n.Max, n.Mode = other.Min, other.Max, other.Mode
	case 6:
		x.Names = pick(r, append(x.Names, pick(r, "", "n", "7")), x.Names[:len(x.Names)/2])
	}
}

// TestBent: P15.1, R1, R2, trees in which one thing after the other is changed, and what they are spread to, held against the chapter's words.
func TestBent(t *testing.T) {
	t.Parallel()
	r := rand.New(rand.NewSource(153))
	right, wrong := 0, 0
	for range 4000 {
		x := someTree(r, 5)
		if out, e := spread.Out(x); e == api.OK && r.Intn(4) == 0 {
			x = out
		}
		for range 3 {
			got := alike(t, x, someFlags(r), someTables(r))
			right += count(got.e == api.OK)
			wrong += count(got.e == api.ErrShape)
			bend(r, &x)
		}
	}
	if right < 4000 || wrong < 3000 {
		t.Error(right, wrong)
	}
}

// TestGreat: R1, R7, very great trees, tables and texts come to an end.
func TestGreat(t *testing.T) {
	const n = 1 << 18
	ranges, kids, many := make([]api.Range, n), make([]int, n), api.Tables{Folds: make([]api.Fold, n)}
	for i := range n {
		ranges[i], kids[i], many.Folds[i] = api.Range{Lo: 3 * i, Hi: 3 * i}, i, api.Fold{From: 2 * i, To: api.MaxPoint}
	}
	deep := a()
	for range n {
		deep.Nodes = append(deep.Nodes, api.Node{Kind: api.NodeRepeat, Max: -1, Mode: lazy, Kids: []int{len(deep.Nodes) - 1}})
	}
	for i, x := range []api.Tree{
		{Nodes: make([]api.Node, n)}, {Nodes: []api.Node{{Kind: api.NodeSet, Set: ranges}}}, {Nodes: []api.Node{{Kind: api.NodeSeq, Kids: kids}}}, {Nodes: empty().Nodes, Names: make([]string, n)}, named(group(1, a()), strings.Repeat("a", 1<<24)), seqs(n, a()), deep,
	} {
		if got := answerOf(x, api.Flags{Fold: true}, many); !got.same(answer{e: api.ErrShape}) {
			t.Error(i, shown(got))
		}
	}
	got := alike(t, read(t, `(a)\1`), api.Flags{Fold: true}, many)
	if got.e != api.OK || len(got.p.Folds) != n {
		t.Error(got.e, len(got.p.Folds))
	}
	many.Folds[n-1].To = 0
	if got := alike(t, read(t, `(a)\1`), api.Flags{Fold: true}, many); got.e != api.OK || len(got.p.Folds) != 0 {
		t.Error(got.e, len(got.p.Folds))
	}
}
