package tree_test

import (
	"math/rand"
	"slices"
	"testing"

	"tinder/api"
	"tinder/tree"
)

// within is a row at the beginning of a longer one: what a call writes behind its end is seen there.
func within[E any](l []E, behind ...E) []E {
	return slices.Concat(l, behind)[:len(l)]
}

// guarded is the same tree, of which each row lies within a longer one.
func guarded(x api.Tree) api.Tree {
	odd := api.Node{Kind: 77, Group: -7, Kids: []int{}, Set: []api.Range{}}
	x.Nodes = within(x.Nodes, odd, odd, odd, odd)
	for at := range x.Nodes {
		n := &x.Nodes[at]
		n.Set = within(n.Set, api.Range{Lo: -5, Hi: -6}, api.Range{Lo: 31, Hi: 32}, api.Range{Lo: 4, Hi: 4})
		n.Kids = within(n.Kids, -55, 3, -66, 0)
	}
	x.Names = within(x.Names, "behind", "them", "")
	return x
}

// whole are all rows of a tree, up to the ends of the longer ones that they lie in.
func whole(x api.Tree) api.Tree {
	x.Nodes = slices.Clone(x.Nodes[:cap(x.Nodes)])
	for at := range x.Nodes {
		n := &x.Nodes[at]
		n.Set, n.Kids = slices.Clone(n.Set[:cap(n.Set)]), slices.Clone(n.Kids[:cap(n.Kids)])
	}
	x.Names = slices.Clone(x.Names[:cap(x.Names)])
	return x
}

// spoil writes into all of a tree's memory, up to its capacity.
func spoil(x api.Tree) {
	for _, n := range x.Nodes[:cap(x.Nodes)] {
		spoilLists(n)
	}
	for at := range x.Nodes[:cap(x.Nodes)] {
		x.Nodes[:cap(x.Nodes)][at] = api.Node{Kind: 99, Group: -99, Kids: []int{-99}}
	}
	for i := range x.Names[:cap(x.Names)] {
		x.Names[:cap(x.Names)][i] = "spoilt"
	}
}

func spoilLists(n api.Node) {
	for i := range n.Set[:cap(n.Set)] {
		n.Set[:cap(n.Set)][i] = api.Range{Lo: 99, Hi: -99}
	}
	for i := range n.Kids[:cap(n.Kids)] {
		n.Kids[:cap(n.Kids)][i] = -99
	}
}

// answers are all trees that the calls tell of some, the trees of one answer one behind the other; and all numbers.
func answers(n api.Node, l ...api.Tree) (out []api.Tree, numbers []int) {
	for _, x := range l {
		out = append(out, tree.Kids(x)...)
		for at := -1; at <= len(x.Nodes); at++ {
			out = append(out, tree.Of(x, at))
		}
		from, to := tree.Groups(x)
		numbers = append(numbers, from, to, tree.Deep(x))
		for _, is := range []bool{tree.Right(x), tree.Spread(x)} {
			numbers = append(numbers, map[bool]int{true: 1}[is])
		}
	}
	return append(out, tree.Join(n, l...), tree.Join(n), tree.Join(n, slices.Concat(l, l)...)), numbers
}

func sameTree(a, b api.Tree) bool {
	return sameNodes(a.Nodes, b.Nodes) && slices.Equal(a.Names, b.Names)
}

func sameTrees(a, b []api.Tree) bool { return slices.EqualFunc(a, b, sameTree) }

// clones are the same trees in memory of their own.
func clones(l []api.Tree) []api.Tree {
	var out []api.Tree
	for _, x := range l {
		x.Names = slices.Clone(x.Names)
		x.Nodes = moved(x.Nodes, 0)
		for at := range x.Nodes {
			x.Nodes[at].Set = slices.Clone(x.Nodes[at].Set)
		}
		out = append(out, x)
	}
	return out
}

// cases are trees, in order or not, of which rows have memory to be shared.
func cases() []api.Tree {
	set := api.Node{Kind: api.NodeSet, Set: []api.Range{{Lo: 1, Hi: 2}, {Lo: 7, Hi: 9}}}
	seq := api.Node{Kind: api.NodeSeq}
	l := []api.Tree{
		{}, {Names: []string{"a"}}, above(set), chain(5), wide(6), named(above(seq, above(set), group(1, above(set)), above(set)), "first"),
		named(above(seq, above(set), group(2, above(set)), group(1, above(set))), "a", "a", "0"),
		{Nodes: []api.Node{set, set, {Kind: api.NodeSeq, Kids: []int{1, 0}, Set: set.Set}}}, {Nodes: []api.Node{{Kind: api.NodeAtomic, Kids: []int{5, -3, 0}}, set}},
	}
	r := rand.New(rand.NewSource(3))
	for range 40 {
		l = append(l, some(r, 4))
	}
	return l
}

// given is a node that trees are joined under: it has a set, and kids that are not asked.
func given() api.Node {
	return guarded(api.Tree{Nodes: []api.Node{{Kind: api.NodeSeq, Set: []api.Range{{Lo: 3, Hi: 5}}, Kids: []int{7, 8}}}}).Nodes[0]
}

// TestMemory: R3, no argument is changed, not even behind its end, and what is handed out is new memory, up to its capacity.
func TestMemory(t *testing.T) {
	for _, a := range cases() {
		for _, b := range cases()[:12] {
			n, l := given(), within([]api.Tree{guarded(a), guarded(b)}, chain(3), api.Tree{})
			out, _ := answers(n, l...)
			for _, x := range out {
				spoil(x)
			}
			if !sameTree(whole(l[0]), whole(guarded(a))) || !sameTree(whole(l[1]), whole(guarded(b))) || !sameTrees(l[:4][2:], []api.Tree{chain(3), {}}) {
				t.Fatal(a, b, l)
			}
			if !sameTree(whole(api.Tree{Nodes: []api.Node{n}}), whole(api.Tree{Nodes: []api.Node{given()}})) {
				t.Fatal(n)
			}
		}
	}
}

// TestNotKept: R3, what is told stays as it is when all that was given is written over, and is told anew of what then stands there.
func TestNotKept(t *testing.T) {
	for _, a := range cases() {
		for _, b := range cases()[:12] {
			n, l := given(), []api.Tree{guarded(a), guarded(b)}
			out, numbers := answers(n, l...)
			spoilLists(n)
			spoil(l[0])
			spoil(l[1])
			want, same := answers(given(), a, b)
			if !sameTrees(out, want) || !slices.Equal(numbers, same) {
				t.Fatal(a, b, out)
			}
			for _, x := range l {
				if from, to := tree.Groups(x); from != 0 || to != 0 || tree.Right(x) || tree.Spread(x) || tree.Deep(x) != 0 {
					t.Fatal(x)
				}
			}
			if got := tree.Join(n, l...); len(got.Nodes) > 1 && got.Nodes[0].Kind != 99 {
				t.Fatal(got)
			}
		}
	}
}

// TestAnswersApart: R3, R4, one thing asked again is answered alike, in memory of its own each time.
func TestAnswersApart(t *testing.T) {
	for _, a := range cases() {
		n, b := given(), cases()[5]
		first, _ := answers(n, a, b)
		second, numbers := answers(n, a, b)
		want := clones(first)
		for _, x := range first {
			spoil(x)
		}
		if !sameTrees(second, want) {
			t.Fatal(a, second, want)
		}
		for range 3 {
			if again, same := answers(n, a, b); !sameTrees(again, want) || !slices.Equal(numbers, same) {
				t.Fatal(a, again, want)
			}
		}
	}
}

// TestRowsApart: R3, the rows of one answer lie apart: what is written into one, or put behind it, is not seen in the others.
func TestRowsApart(t *testing.T) {
	for _, a := range cases() {
		n := given()
		for _, got := range [][]api.Tree{{tree.Join(n, a, a)}, {tree.Of(a, len(a.Nodes)-1)}, tree.Kids(a), {tree.Join(n, a, chain(3), a)}} {
			var rows []api.Node
			for _, x := range got {
				rows = append(rows, x.Nodes...)
			}
			want := clones([]api.Tree{{Nodes: rows}})[0].Nodes
			for i, row := range rows {
				// Neither row of a node may be a piece of the other rows' memory, up to its capacity.
				spoilLists(row)
				if !sameNodes(rows[i+1:], want[i+1:]) {
					t.Fatal(a, i, rows)
				}
			}
		}
		// Trees of one answer: what is put behind one does not show in the next.
		got := tree.Kids(a)
		want := clones(got)
		for i := range slices.Backward(got) {
			got[i].Nodes = append(got[i].Nodes, api.Node{Kind: 99}, api.Node{Kind: 99})
		}
		for i := range got {
			if !sameNodes(got[i].Nodes[:len(want[i].Nodes)], want[i].Nodes) {
				t.Fatal(a, i)
			}
		}
		for i := range got {
			spoil(got[i])
			for k := i + 1; k < len(got); k++ {
				if !sameNodes(got[k].Nodes[:len(want[k].Nodes)], want[k].Nodes) {
					t.Fatal(a, i, k)
				}
			}
		}
	}
}

// TestSetsAndKidsApart: R3, a node's set that several trees share comes out apart in each.
func TestSetsAndKidsApart(t *testing.T) {
	set := []api.Range{{Lo: 1, Hi: 2}}
	leaf := api.Tree{Nodes: []api.Node{{Kind: api.NodeSet, Set: set}}}
	x := tree.Join(api.Node{Kind: api.NodeSeq, Set: set}, leaf, leaf, leaf)
	x.Nodes[1].Set[0].Lo = 7
	for _, at := range []int{0, 2, 3} {
		if x.Nodes[at].Set[0].Lo != 1 {
			t.Error(at, x)
		}
	}
	if set[0].Lo != 1 {
		t.Error(set)
	}
}

// TestNilAndEmpty: R6, lists without elements and nil ones are one.
func TestNilAndEmpty(t *testing.T) {
	for _, x := range append(cases(), named(api.Tree{}), api.Tree{Nodes: []api.Node{{}}}) {
		full := clones([]api.Tree{x})[0]
		none := clones([]api.Tree{x})[0]
		for at := range full.Nodes {
			if n, m := &full.Nodes[at], &none.Nodes[at]; len(n.Set) == 0 {
				n.Set, m.Set = []api.Range{}, nil
			}
			if n, m := &full.Nodes[at], &none.Nodes[at]; len(n.Kids) == 0 {
				n.Kids, m.Kids = []int{}, nil
			}
		}
		if len(x.Names) == 0 {
			full.Names, none.Names = []string{}, nil
		}
		if len(x.Nodes) == 0 {
			full.Nodes, none.Nodes = []api.Node{}, nil
		}
		n := api.Node{Kind: api.NodeAlt, Set: []api.Range{}, Kids: []int{}}
		out, numbers := answers(n, full, full)
		n.Set, n.Kids = nil, nil
		want, same := answers(n, none, none)
		if !sameTrees(out, want) || !slices.Equal(numbers, same) {
			t.Fatal(x, numbers, same)
		}
	}
	for _, n := range []api.Node{{Kind: api.NodeEmpty}, {Kind: api.NodeSet}, {Kind: api.NodeSpot, Spot: api.SpotEnd}} {
		for _, names := range [][]string{nil, {}, make([]string, 3)[:0]} {
			for _, set := range [][]api.Range{nil, {}, make([]api.Range, 3)[:0]} {
				for _, kids := range [][]int{nil, {}, make([]int, 3)[:0]} {
					n.Set, n.Kids = set, kids
					sorted(t, api.Tree{Nodes: []api.Node{n}, Names: names}, true, true)
				}
			}
		}
	}
	are(t, tree.Join(api.Node{}, []api.Tree{}...), []api.Node{{}})
}

// TestGreat: R1, R7, very great trees, rows and texts come to an end.
func TestGreat(t *testing.T) {
	const n = 1 << 18
	kids := make([]int, n)
	set := make([]api.Range, n)
	for i := range n {
		kids[i], set[i] = i-1, api.Range{Lo: i, Hi: i}
	}
	for _, x := range []api.Tree{
		{Nodes: make([]api.Node, n)}, chain(n), wide(n), {Nodes: []api.Node{{Kind: api.NodeSeq, Kids: kids}}}, {Nodes: []api.Node{{Kind: api.NodeSet, Set: set}}}, {Nodes: []api.Node{{Kind: api.NodeEmpty}, {Kind: api.NodeSeq, Kids: make([]int, n)}}},
		named(empty(), make([]string, n)...), {Names: make([]string, n)},
	} {
		if tree.Right(x) || tree.Spread(x) || len(tree.Kids(x)) > 0 || tree.Deep(x) > 1 {
			t.Error(len(x.Nodes), tree.Deep(x))
		}
		tree.Of(x, len(x.Nodes)-1)
		tree.Groups(x)
		if got := tree.Join(api.Node{Kind: api.NodeSeq, Set: set, Kids: kids}, x, x); len(got.Nodes) != 2*len(x.Nodes)+1 || len(got.Nodes[len(got.Nodes)-1].Set) != n {
			t.Error(len(got.Nodes))
		}
	}
	// All nodes lie at one set and at one row of kids: to go through these again and again would not end soon.
	shared := api.Tree{Nodes: make([]api.Node, 4000)}
	for at := range shared.Nodes {
		shared.Nodes[at] = api.Node{Kind: api.NodeSet, Set: set, Kids: kids}
	}
	if tree.Right(shared) || tree.Spread(shared) || tree.Deep(shared) != 0 {
		t.Error("shared")
	}
	many := make([]api.Tree, n/4)
	for i := range many {
		many[i] = empty()
	}
	if got := tree.Join(api.Node{Kind: api.NodeSeq}, many...); len(got.Nodes) != n/4+1 || len(got.Nodes[n/4].Kids) != n/4 {
		t.Error(len(got.Nodes))
	}
	l := make([]api.Tree, n)
	are(t, tree.Join(api.Node{Kind: api.NodeSeq}, l...), []api.Node{{Kind: api.NodeSeq}})
}
