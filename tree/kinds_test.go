package tree_test

import (
	"math"
	"slices"
	"strings"
	"testing"

	"tinder/api"
	"tinder/tree"
)

// sorted fails unless it is told whether a tree is written, and whether it is spread.
func sorted(t *testing.T, x api.Tree, written, spread bool) {
	t.Helper()
	if tree.Right(x) != written || tree.Spread(x) != spread {
		t.Fatal("got", tree.Right(x), tree.Spread(x), "want", written, spread, "of", x)
	}
}

// over is a node above so many trees of one node each, with a name for its group.
func over(n api.Node, kids int) api.Tree {
	var l []api.Tree
	for range kids {
		l = append(l, empty())
	}
	x := above(n, l...)
	if n.Kind == api.NodeGroup {
		x.Names = []string{""}
	}
	return x
}

// right is a node that is of its kind, how many kids it has, and of which trees it may be.
type right struct {
	n               api.Node
	kids            int
	written, spread bool
}

func rights() []right {
	l := []right{
		{api.Node{Kind: api.NodeEmpty}, 0, true, true},
		{api.Node{Kind: api.NodeSet}, 0, true, true},
		{api.Node{Kind: api.NodeSet, Set: []api.Range{{Lo: 'a', Hi: 'a'}}}, 0, true, true},
		{api.Node{Kind: api.NodeGroup, Group: 1}, 1, true, true},
		{api.Node{Kind: api.NodeAtomic}, 1, true, true},
		{api.Node{Kind: api.NodeRepeat, Max: -1, Mode: api.ModeGreedy}, 1, true, true},
		{api.Node{Kind: api.NodeRepeat, Max: -1, Mode: api.ModeLazy}, 1, true, true},
		{api.Node{Kind: api.NodeRepeat, Max: -1, Mode: api.ModeOwn}, 1, true, false},
		{api.Node{Kind: api.NodeRepeat, Min: 1, Max: -1, Mode: api.ModeGreedy}, 1, true, false},
		{api.Node{Kind: api.NodeRepeat, Max: 1, Mode: api.ModeLazy}, 1, true, false},
		{api.Node{Kind: api.NodeRepeat, Mode: api.ModeGreedy}, 1, true, false},
		{api.Node{Kind: api.NodeRepeat, Min: 7, Max: 9, Mode: api.ModeOwn}, 1, true, false},
		{api.Node{Kind: api.NodeAhead}, 1, true, true},
		{api.Node{Kind: api.NodeAhead, Not: true}, 1, true, true},
		{api.Node{Kind: api.NodeBehind}, 1, true, true},
		{api.Node{Kind: api.NodeBehind, Not: true}, 1, true, true},
		{api.Node{Kind: api.NodeFresh}, 1, false, true},
	}
	for spot := api.SpotStart; spot <= api.SpotInner; spot++ {
		l = append(l, right{api.Node{Kind: api.NodeSpot, Spot: spot}, 0, true, true})
	}
	for _, many := range []int{2, 3, 4, 900} {
		l = append(l, right{api.Node{Kind: api.NodeSeq}, many, true, true}, right{api.Node{Kind: api.NodeAlt}, many, true, true})
	}
	for _, many := range []int{1, 2} {
		l = append(l, right{api.Node{Kind: api.NodeTry, Mode: api.ModeGreedy}, many, false, true}, right{api.Node{Kind: api.NodeTry, Mode: api.ModeLazy}, many, false, true})
	}
	return l
}

// TestKinds: P6.1, each kind with just what it has, alone, below a node, and beside others.
func TestKinds(t *testing.T) {
	for _, x := range rights() {
		whole := over(x.n, x.kids)
		sorted(t, whole, x.written, x.spread)
		sorted(t, named(above(api.Node{Kind: api.NodeAtomic}, whole), whole.Names...), x.written, x.spread)
		sorted(t, named(above(api.Node{Kind: api.NodeAlt}, empty(), whole, empty()), whole.Names...), x.written, x.spread)
		sorted(t, named(above(api.Node{Kind: api.NodeSeq}, whole, empty()), whole.Names...), x.written, x.spread)
	}
}

// TestKindsWithMore: P6.1, each kind with one part more than it has.
func TestKindsWithMore(t *testing.T) {
	has := map[api.NodeKind]string{
		api.NodeSet: "set", api.NodeGroup: "group", api.NodeBack: "group", api.NodeRepeat: "min max mode", api.NodeSpot: "spot", api.NodeAhead: "not", api.NodeBehind: "not", api.NodeTry: "mode",
	}
	parts := map[string]func(n *api.Node, k int){
		"set":   func(n *api.Node, k int) { n.Set = []api.Range{{Lo: k, Hi: k}} },
		"group": func(n *api.Node, k int) { n.Group = k },
		"min":   func(n *api.Node, k int) { n.Min = k },
		"max":   func(n *api.Node, k int) { n.Max = k },
		"mode":  func(n *api.Node, k int) { n.Mode = api.ModeKind(k) },
		"spot":  func(n *api.Node, k int) { n.Spot = api.SpotKind(k) },
		"not":   func(n *api.Node, k int) { n.Not = true },
	}
	for _, x := range rights() {
		for part, with := range parts {
			for _, k := range []int{1, 2, 255, -1} {
				if !strings.Contains(has[x.n.Kind], part) {
					n := x.n
					with(&n, k)
					sorted(t, named(over(n, x.kids), ""), false, false)
					sorted(t, named(over(n, x.kids)), false, false)
					sorted(t, named(above(api.Node{Kind: api.NodeSeq}, over(n, x.kids), empty()), over(x.n, x.kids).Names...), false, false)
				}
			}
		}
	}
}

// TestKindsWithoutParts: P6.1, each kind with one part less, or out of its bounds.
func TestKindsWithoutParts(t *testing.T) {
	for n := range 256 {
		spot := api.SpotKind(n)
		is := n >= 1 && n <= 4
		sorted(t, over(api.Node{Kind: api.NodeSpot, Spot: spot}, 0), is, is)
		mode := api.ModeKind(n)
		sorted(t, over(api.Node{Kind: api.NodeRepeat, Max: -1, Mode: mode}, 1), n >= 1 && n <= 3, n >= 1 && n <= 2)
		sorted(t, over(api.Node{Kind: api.NodeTry, Mode: mode}, 1), false, n >= 1 && n <= 2)
		sorted(t, over(api.Node{Kind: api.NodeTry, Mode: mode}, 2), false, n >= 1 && n <= 2)
	}
}

// TestKidsOfKinds: P6.1, how many kids each kind may have.
func TestKidsOfKinds(t *testing.T) {
	for _, x := range rights() {
		for many := range 6 {
			is := map[api.NodeKind]bool{
				api.NodeEmpty: many == 0, api.NodeSet: many == 0, api.NodeSpot: many == 0, api.NodeSeq: many >= 2, api.NodeAlt: many >= 2, api.NodeTry: many == 1 || many == 2,
				api.NodeGroup: many == 1, api.NodeAtomic: many == 1, api.NodeRepeat: many == 1, api.NodeAhead: many == 1, api.NodeBehind: many == 1, api.NodeFresh: many == 1,
			}[x.n.Kind]
			sorted(t, over(x.n, many), is && x.written, is && x.spread)
		}
	}
	group := over(api.Node{Kind: api.NodeGroup, Group: 1}, 1)
	for many := range 4 {
		back := named(above(api.Node{Kind: api.NodeSeq}, group, over(api.Node{Kind: api.NodeBack, Group: 1}, many)), "")
		sorted(t, back, many == 0, many == 0)
	}
}

// TestNoKinds: P6.1, kinds that there are not.
func TestNoKinds(t *testing.T) {
	for k := range 256 {
		if kind := api.NodeKind(k); k < 1 || k > 13 {
			for many := range 4 {
				sorted(t, over(api.Node{Kind: kind}, many), false, false)
				sorted(t, over(api.Node{Kind: kind, Mode: 1}, many), false, false)
				sorted(t, above(api.Node{Kind: api.NodeSeq}, over(api.Node{Kind: kind}, many), empty()), false, false)
			}
		}
	}
}

// TestCounts: P6.1, Min and Max of a repeat at all ends.
func TestCounts(t *testing.T) {
	const top, low = math.MaxInt, math.MinInt
	type pair struct{ least, most int }
	for _, x := range []pair{{0, 0}, {0, 1}, {1, 1}, {0, 1000}, {999, 1000}, {1000, 1000}, {0, -1}, {1, -1}, {999, -1}, {1000, -1}, {3, 7}} {
		for mode := api.ModeGreedy; mode <= api.ModeOwn; mode++ {
			sorted(t, over(api.Node{Kind: api.NodeRepeat, Min: x.least, Max: x.most, Mode: mode}, 1), true, x == pair{0, -1} && mode != api.ModeOwn)
		}
	}
	for _, x := range []pair{
		{1, 0}, {2, 1}, {1000, 999}, {1000, 0}, {0, 1001}, {1000, 1001}, {1001, 1001}, {1001, 1002}, {1001, -1}, {1001, 1000}, {-1, -1}, {-1, 0}, {-1, 1000}, {0, -2}, {-2, -2}, {-2, -1}, {1, -2},
		{low, -1}, {low, 0}, {low, low}, {low, top}, {top, top}, {top, -1}, {top, low}, {0, low}, {0, top}, {1000, top}, {-1, top},
	} {
		for mode := api.ModeGreedy; mode <= api.ModeOwn; mode++ {
			sorted(t, over(api.Node{Kind: api.NodeRepeat, Min: x.least, Max: x.most, Mode: mode}, 1), false, false)
		}
	}
}

// TestSets: P6.1, sets of 2000 ranges and one more, and ranges that are no set.
func TestSets(t *testing.T) {
	const top = api.MaxPoint
	var set []api.Range
	for i := range 2003 {
		sorted(t, over(api.Node{Kind: api.NodeSet, Set: set}, 0), i <= 2000, i <= 2000)
		set = append(set, api.Range{Lo: 3 * i, Hi: 3*i + 1})
	}
	for _, x := range [][]api.Range{
		{{Lo: 2, Hi: 1}}, {{Lo: -1, Hi: 1}}, {{Lo: top, Hi: top + 1}}, {{Lo: 1, Hi: 2}, {Lo: 3, Hi: 4}}, {{Lo: 1, Hi: 2}, {Lo: 2, Hi: 4}}, {{Lo: 5, Hi: 6}, {Lo: 1, Hi: 2}}, {{Lo: 1, Hi: 2}, {Lo: 1, Hi: 2}},
		{{Lo: math.MinInt, Hi: math.MaxInt}}, {{Lo: math.MaxInt, Hi: math.MinInt}}, {{Lo: 0, Hi: math.MaxInt}},
	} {
		sorted(t, over(api.Node{Kind: api.NodeSet, Set: x}, 0), false, false)
		sorted(t, above(api.Node{Kind: api.NodeAlt}, empty(), over(api.Node{Kind: api.NodeSet, Set: x}, 0)), false, false)
	}
	for _, x := range [][]api.Range{{{Lo: 0, Hi: 0}}, {{Lo: 0, Hi: top}}, {{Lo: top, Hi: top}}, {{Lo: 1, Hi: 2}, {Lo: 4, Hi: 5}}, {{Lo: 0, Hi: 0}, {Lo: 2, Hi: top}}} {
		sorted(t, over(api.Node{Kind: api.NodeSet, Set: x}, 0), true, true)
	}
}

// TestNodesOfAllSorts: P6.1, nodes of all kinds, with all sorts of parts, held against the chapter's table.
func TestNodesOfAllSorts(t *testing.T) {
	var l []api.Node
	for kind := range api.NodeKind(16) {
		for _, set := range [][]api.Range{nil, {}, {{Lo: 1, Hi: 1}}, {{Lo: 2, Hi: 1}}} {
			for _, counts := range [][]int{{0, 0}, {0, -1}, {1, -1}, {1, 2}, {2, 1}, {0, 1001}} {
				for mode := range api.ModeKind(5) {
					l = append(l, api.Node{Kind: kind, Set: set, Min: counts[0], Max: counts[1], Mode: mode})
				}
			}
		}
	}
	for _, n := range l {
		for many := range 4 {
			for _, n.Group = range []int{0, 1, 2} {
				for _, n.Spot = range []api.SpotKind{0, api.SpotEnd, 5} {
					for _, n.Not = range []bool{false, true} {
						x := over(n, many)
						sorted(t, x, isWritten(x), isSpread(x))
					}
				}
			}
		}
	}
}

// TestNames: P6.1, names of 0, 1, 40 and 41 signs, of all signs, twice the same, 20 of them and 21.
func TestNames(t *testing.T) {
	long := strings.Repeat("a", 40)
	for _, x := range []struct {
		names []string
		is    bool
	}{
		{nil, true}, {[]string{""}, true}, {[]string{"a"}, true}, {[]string{"Z"}, true}, {[]string{"_"}, true}, {[]string{"$"}, true}, {[]string{"a0"}, true}, {[]string{"_9"}, true}, {[]string{"$0"}, true}, {[]string{long}, true}, {[]string{long[1:]}, true}, {[]string{signs[:40]}, true}, {[]string{signs[24:64]}, true},
		{[]string{"", ""}, true}, {[]string{"", "", ""}, true}, {[]string{"a", "b"}, true}, {[]string{"a", "A"}, true}, {[]string{"a", ""}, true}, {[]string{"", "a", ""}, true}, {[]string{long, long[1:]}, true}, {[]string{"b", "a"}, true},
		{[]string{long + "a"}, false}, {[]string{long + "1"}, false}, {[]string{strings.Repeat("a", 1<<20)}, false}, {[]string{"0"}, false}, {[]string{"9a"}, false}, {[]string{"5" + long[1:]}, false},
		{[]string{"a", "a"}, false}, {[]string{"a", "", "a"}, false}, {[]string{"", "a", "a"}, false}, {[]string{"a", "b", "a"}, false}, {[]string{"b", "a", "a"}, false}, {[]string{long, long}, false}, {[]string{"a", "0"}, false}, {[]string{"0", "a"}, false}, {[]string{"a", "", "é"}, false},
		{[]string{"é"}, false}, {[]string{"aé"}, false}, {[]string{"\xff"}, false}, {[]string{"a\xc3"}, false}, {[]string{"\x00"}, false}, {[]string{" "}, false}, {[]string{"a "}, false}, {[]string{"a-b"}, false}, {[]string{"\U0001F600"}, false}, {[]string{"\u212A"}, false}, {[]string{"\uFF41"}, false}, {[]string{"a\u0663"}, false},
	} {
		sorted(t, groups(x.names...), x.is, x.is)
	}
	for c := range 256 {
		at := strings.IndexByte(signs, byte(c))
		first, behind := at >= 0 && (at < 52 || at >= 62), at >= 0
		sorted(t, groups(string([]byte{byte(c)})), first, first)
		sorted(t, groups(string([]byte{'a', byte(c)})), behind, behind)
		sorted(t, groups(string([]byte{'_', byte(c), 'a'})), behind, behind)
		sorted(t, groups("b", "c", long[1:]+string([]byte{byte(c)})), behind, behind)
	}
}

// groups is a row of groups, one for each name.
func groups(names ...string) api.Tree {
	l := []api.Tree{empty(), empty()}
	for i := range names {
		l = append(l, over(api.Node{Kind: api.NodeGroup, Group: i + 1}, 1))
	}
	return named(above(api.Node{Kind: api.NodeSeq}, l...), names...)
}

// TestManyNames: P6.1, 20 names and 21, empty or not.
func TestManyNames(t *testing.T) {
	for n := 18; n <= 23; n++ {
		names := make([]string, n)
		sorted(t, groups(names...), n <= 20, n <= 20)
		for i := range names {
			names[i] = "n" + signs[i:i+1]
		}
		sorted(t, groups(names...), n <= 20, n <= 20)
		if n <= 20 {
			names[n-1] = "nA"
			sorted(t, groups(names...), false, false)
		}
	}
	// Names are asked where there are no groups, too: a spread tree may do without.
	sorted(t, named(empty(), make([]string, 20)...), false, true)
	sorted(t, named(empty(), make([]string, 21)...), false, false)
	sorted(t, named(empty(), "0"), false, false)
	sorted(t, named(empty(), "a", "a"), false, false)
	sorted(t, named(empty(), make([]string, 1<<20)...), false, false)
}

// group is a group above others.
func group(n int, kids ...api.Tree) api.Tree {
	if len(kids) > 1 {
		kids = []api.Tree{above(api.Node{Kind: api.NodeSeq}, kids...)}
	} else if len(kids) == 0 {
		kids = []api.Tree{empty()}
	}
	return above(api.Node{Kind: api.NodeGroup, Group: n}, kids...)
}

// TestGroupsInOrder: P6.1, groups count in the order in which they begin.
func TestGroupsInOrder(t *testing.T) {
	alt := api.Node{Kind: api.NodeAlt}
	// Where each group stands in the order of beginning, of trees with groups a, b, c, d.
	shapes := []func(a, b, c, d int) api.Tree{
		func(a, b, c, d int) api.Tree { return group(a, group(b, group(c, group(d)))) },
		func(a, b, c, d int) api.Tree { return above(alt, group(a), group(b), group(c), group(d)) },
		func(a, b, c, d int) api.Tree { return group(a, group(b), group(c), group(d)) },
		func(a, b, c, d int) api.Tree { return group(a, group(b, group(c)), group(d)) },
		func(a, b, c, d int) api.Tree { return group(a, group(b), group(c, group(d))) },
		func(a, b, c, d int) api.Tree { return above(alt, group(a, group(b, group(c))), group(d)) },
		func(a, b, c, d int) api.Tree { return above(alt, empty(), group(a, group(b)), group(c, group(d))) },
		func(a, b, c, d int) api.Tree {
			return above(alt, group(a), above(api.Node{Kind: api.NodeAhead}, group(b, empty(), group(c))), group(d), empty())
		},
	}
	order := []int{1, 2, 3, 4}
	for _, shape := range shapes {
		for _, l := range lists(4, 0, 5) {
			if len(l) == 4 {
				x := named(shape(l[0], l[1], l[2], l[3]), "", "", "", "")
				spread := slices.Min(l) >= 1 && slices.Max(l) <= 4
				sorted(t, x, slices.Equal(l, order), spread)
				if slices.Equal(l, order) {
					sorted(t, named(x, "", "", ""), false, false)
					sorted(t, named(x, "", "", "", "", ""), false, true)
					sorted(t, named(x), false, false)
				}
			}
		}
		for _, wrong := range []int{math.MinInt, math.MaxInt, -1} {
			sorted(t, named(shape(1, 2, 3, wrong), "", "", "", ""), false, false)
			sorted(t, named(shape(wrong, 2, 3, 4), "", "", "", ""), false, false)
		}
	}
	// One group that comes again, and one that is left out.
	sorted(t, named(above(alt, group(1), group(1)), ""), false, true)
	sorted(t, named(above(alt, group(1), group(1)), "", ""), false, true)
	sorted(t, named(above(alt, group(1), group(2), group(2)), "", ""), false, true)
	sorted(t, named(above(alt, group(2), group(1)), "", ""), false, true)
	sorted(t, named(above(alt, group(1), group(3)), "", ""), false, false)
	sorted(t, named(above(alt, group(1), group(3)), "", "", ""), false, true)
	sorted(t, named(above(alt, group(2), group(3)), "", "", ""), false, true)
	sorted(t, named(group(2), ""), false, false)
	sorted(t, named(group(0), ""), false, false)
	sorted(t, group(0), false, false)
	sorted(t, group(1), false, false)
}

// TestManyGroups: P6.1, more groups than there may be.
func TestManyGroups(t *testing.T) {
	nest, row := empty(), []api.Tree{empty(), empty()}
	for n := 1; n <= 25; n++ {
		nest = group(-1, nest)
		for at, i := 1, n; i > 0; at, i = at+1, i-1 {
			nest.Nodes[at].Group = i
		}
		sorted(t, named(nest, make([]string, n)...), n <= 20, n <= 20)
		row = append(row, group(n))
		sorted(t, named(above(api.Node{Kind: api.NodeSeq}, row...), make([]string, n)...), n <= 20, n <= 20)
		sorted(t, named(above(api.Node{Kind: api.NodeSeq}, row...), make([]string, 20)...), n == 20, n <= 20)
	}
}

// TestReferences: P6.1, references to group 0, to each, to the last one and past it.
func TestReferences(t *testing.T) {
	seq := api.Node{Kind: api.NodeSeq}
	back := func(n int) api.Tree { return above(api.Node{Kind: api.NodeBack, Group: n}) }
	for names := range 4 {
		row := []api.Tree{empty(), empty()}
		for i := range names {
			row = append(row, group(i+1))
		}
		for _, n := range []int{-1, 0, 1, 2, 3, 4, 5, math.MaxInt, math.MinInt} {
			is := 1 <= n && n <= names
			all := make([]string, names)
			sorted(t, named(above(seq, append(slices.Clone(row), back(n))...), all...), is, is)
			sorted(t, named(above(seq, append([]api.Tree{back(n)}, row...)...), all...), is, is)
			sorted(t, named(above(seq, append([]api.Tree{back(n), back(1)}, row...)...), all...), is, is && names > 0)
			sorted(t, named(above(seq, append([]api.Tree{back(1), back(n)}, row...)...), all...), is, is && names > 0)
			// A spread tree may have a name without a group.
			sorted(t, named(above(seq, append(slices.Clone(row), back(n))...), append(all, "")...), false, 1 <= n && n <= names+1)
		}
	}
	sorted(t, named(group(1, back(1)), ""), true, true)
	sorted(t, named(group(1, back(2), group(2)), "", ""), true, true)
	sorted(t, named(group(1, back(3), group(2)), "", ""), false, false)
}

// TestWrittenOrSpread: P6.1, a written tree and a spread one with what only the other may have.
func TestWrittenOrSpread(t *testing.T) {
	star := api.Node{Kind: api.NodeRepeat, Max: -1, Mode: api.ModeGreedy}
	plus := api.Node{Kind: api.NodeRepeat, Min: 1, Max: -1, Mode: api.ModeGreedy}
	own := api.Node{Kind: api.NodeRepeat, Max: -1, Mode: api.ModeOwn}
	once := api.Node{Kind: api.NodeTry, Mode: api.ModeGreedy}
	fresh := api.Node{Kind: api.NodeFresh}
	for _, n := range []api.Node{plus, own} {
		sorted(t, over(n, 1), true, false)
		sorted(t, above(star, over(n, 1)), true, false)
		sorted(t, above(n, over(star, 1)), true, false)
		for _, m := range []api.Node{once, fresh} {
			sorted(t, over(m, 1), false, true)
			sorted(t, above(star, over(m, 1)), false, true)
			sorted(t, above(m, over(star, 1)), false, true)
			sorted(t, above(m, over(n, 1)), false, false)
			sorted(t, above(n, over(m, 1)), false, false)
			sorted(t, above(api.Node{Kind: api.NodeSeq}, over(m, 1), over(star, 1), over(n, 1)), false, false)
		}
	}
	sorted(t, over(star, 1), true, true)
	sorted(t, above(star, over(star, 1)), true, true)
	sorted(t, above(fresh, over(once, 2)), false, true)
	// Groups twice, out of their order, and more than 60 deep: spread alone.
	sorted(t, named(above(api.Node{Kind: api.NodeSeq}, above(fresh, group(1)), above(fresh, group(1))), "a"), false, true)
	sorted(t, above(star, chain(60)), false, true)
	sorted(t, above(star, chain(59)), true, true)
	sorted(t, above(plus, chain(60)), false, false)
	sorted(t, above(once, chain(4000)), false, false)
}
