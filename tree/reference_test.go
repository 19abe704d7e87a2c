package tree_test

import (
	"math/rand"
	"slices"
	"testing"

	"tinder/api"
	"tinder/tree"
)

// covers are the places that a node covers, rising; places that are none cover nothing.
func covers(l []api.Node, at int) []int {
	met := make([]bool, len(l))
	todo := []int{at}
	for len(todo) > 0 {
		at, todo = todo[0], todo[1:]
		if at >= 0 && at < len(l) && !met[at] {
			met[at] = true
			todo = append(todo, l[at].Kids...)
		}
	}
	var out []int
	for at, is := range met {
		if is {
			out = append(out, at)
		}
	}
	return out
}

// stand is whether each node's kids stand where the chapter's words say.
func stand(l []api.Node) bool {
	for at, n := range l {
		for i, kid := range n.Kids {
			if kid < 0 || kid >= len(l) {
				return false
			}
			behind := at
			if i+1 < len(n.Kids) {
				next := covers(l, n.Kids[i+1])
				if len(next) == 0 {
					return false
				}
				behind = next[0]
			}
			if kid != behind-1 {
				return false
			}
		}
	}
	return true
}

// inOrder is whether nodes are a tree in order, as the chapter's words say it.
func inOrder(l []api.Node) bool {
	return len(l) >= 1 && len(l) <= 4000 && stand(l) && len(covers(l, len(l)-1)) == len(l)
}

// depth is how deep a node of a tree in order is.
func depth(l []api.Node, at int) int {
	d := 0
	for _, kid := range l[at].Kids {
		d = max(d, depth(l, kid))
	}
	return d + 1
}

// begins are the places that a node of a tree in order covers, as they begin.
func begins(l []api.Node, at int) []int {
	out := []int{at}
	for _, kid := range l[at].Kids {
		out = append(out, begins(l, kid)...)
	}
	return out
}

// isSet is whether ranges are a set of at most 2000, as chapter 3's words say it.
func isSet(set []api.Range) bool {
	for i, r := range set {
		if r.Lo < 0 || r.Lo > r.Hi || r.Hi > 0x10FFFF || i > 0 && r.Lo <= set[i-1].Hi+1 {
			return false
		}
	}
	return len(set) <= 2000
}

// kidsOf are the least and the most kids of each kind.
var kidsOf = map[api.NodeKind][2]int{
	api.NodeEmpty: {0, 0}, api.NodeSet: {0, 0}, api.NodeSeq: {2, 4000}, api.NodeAlt: {2, 4000}, api.NodeGroup: {1, 1}, api.NodeAtomic: {1, 1}, api.NodeRepeat: {1, 1},
	api.NodeBack: {0, 0}, api.NodeSpot: {0, 0}, api.NodeAhead: {1, 1}, api.NodeBehind: {1, 1}, api.NodeTry: {1, 2}, api.NodeFresh: {1, 1},
}

// ofKind is whether a node has what the chapter's table says, and nothing else.
func ofKind(n api.Node) bool {
	kids, known := kidsOf[n.Kind]
	if !known || len(n.Kids) < kids[0] || len(n.Kids) > kids[1] {
		return false
	}
	is := func(kinds ...api.NodeKind) bool { return slices.Contains(kinds, n.Kind) }
	set := len(n.Set) == 0 || is(api.NodeSet) && isSet(n.Set)
	group := n.Group == 0 || is(api.NodeGroup, api.NodeBack)
	counts := n.Min == 0 && n.Max == 0
	mode := n.Mode == 0
	spot := n.Spot == 0
	not := !n.Not || is(api.NodeAhead, api.NodeBehind)
	if is(api.NodeRepeat) {
		counts = n.Min >= 0 && n.Min <= 1000 && n.Max <= 1000 && (n.Max == -1 || n.Max >= n.Min)
		mode = n.Mode == api.ModeGreedy || n.Mode == api.ModeLazy || n.Mode == api.ModeOwn
	}
	if is(api.NodeTry) {
		mode = n.Mode == api.ModeGreedy || n.Mode == api.ModeLazy
	}
	if is(api.NodeSpot) {
		spot = n.Spot == api.SpotStart || n.Spot == api.SpotEnd || n.Spot == api.SpotWord || n.Spot == api.SpotInner
	}
	return set && group && counts && mode && spot && not
}

const signs = "ABCDEFGHIJKLMNOPQRSTUVWXYZabcdefghijklmnopqrstuvwxyz0123456789_$"

// areNames is whether names are those of a tree.
func areNames(names []string) bool {
	for i, name := range names {
		for k := range len(name) {
			sign := slices.Index([]byte(signs), name[k])
			if sign < 0 || k == 0 && sign >= 52 && sign < 62 {
				return false
			}
		}
		if len(name) > 40 || name != "" && slices.Contains(names[i+1:], name) {
			return false
		}
	}
	return len(names) <= 20
}

// sound is whether nodes are in order and of their kinds, and names are names.
func sound(t api.Tree) bool {
	return inOrder(t.Nodes) && areNames(t.Names) && !slices.ContainsFunc(t.Nodes, func(n api.Node) bool { return !ofKind(n) })
}

// isWritten is whether a tree is written, as the chapter's words say it.
func isWritten(t api.Tree) bool {
	if !sound(t) || depth(t.Nodes, len(t.Nodes)-1) > 60 {
		return false
	}
	next := 1
	for _, at := range begins(t.Nodes, len(t.Nodes)-1) {
		switch n := t.Nodes[at]; n.Kind {
		case api.NodeTry, api.NodeFresh:
			return false
		case api.NodeBack:
			if n.Group < 1 || n.Group > len(t.Names) {
				return false
			}
		case api.NodeGroup:
			if n.Group != next {
				return false
			}
			next++
		}
	}
	return next == len(t.Names)+1
}

// isSpread is whether a tree is spread, as the chapter's words say it.
func isSpread(t api.Tree) bool {
	return sound(t) && !slices.ContainsFunc(t.Nodes, func(n api.Node) bool {
		switch n.Kind {
		case api.NodeGroup, api.NodeBack:
			return n.Group < 1 || n.Group > len(t.Names)
		case api.NodeRepeat:
			return n.Min != 0 || n.Max != -1 || n.Mode == api.ModeOwn
		}
		return false
	})
}

// sameNode is whether nodes are the same, lists without elements and nil ones being one.
func sameNode(a, b api.Node) bool {
	return a.Kind == b.Kind && slices.Equal(a.Set, b.Set) && slices.Equal(a.Kids, b.Kids) && a.Group == b.Group && a.Min == b.Min && a.Max == b.Max && a.Mode == b.Mode && a.Spot == b.Spot && a.Not == b.Not
}

func sameNodes(a, b []api.Node) bool { return slices.EqualFunc(a, b, sameNode) }

// are fails unless a tree has just these nodes, and no names.
func are(t *testing.T, got api.Tree, want []api.Node, of ...any) {
	t.Helper()
	if !sameNodes(got.Nodes, want) || len(got.Names) > 0 {
		t.Fatal("got", got, "want", want, "of", of)
	}
}

// moved are nodes with their kids so much higher.
func moved(l []api.Node, by int) []api.Node {
	var out []api.Node
	for _, n := range l {
		kids := n.Kids
		n.Kids = nil
		for _, kid := range kids {
			n.Kids = append(n.Kids, kid+by)
		}
		out = append(out, n)
	}
	return out
}

// part is what a node of a tree in order covers, as a tree.
func part(l []api.Node, at int) []api.Node {
	from := covers(l, at)[0]
	return moved(l[from:at+1], -from)
}

// asTold fails unless all that the calls say of a tree is what the chapter's words say.
func asTold(t *testing.T, x api.Tree) {
	t.Helper()
	if got, want := tree.Right(x), isWritten(x); got != want {
		t.Fatal("written", got, want, x)
	}
	if got, want := tree.Spread(x), isSpread(x); got != want {
		t.Fatal("spread", got, want, x)
	}
	deep, kids := 0, []int(nil)
	is, n := inOrder(x.Nodes), len(x.Nodes)
	if is {
		deep, kids = depth(x.Nodes, n-1), x.Nodes[n-1].Kids
	}
	if got := tree.Deep(x); got != deep {
		t.Fatal("deep", got, deep, x)
	}
	for at := -2; at < n+2; at++ {
		var want []api.Node
		if is && at >= 0 && at < n {
			want = part(x.Nodes, at)
		}
		are(t, tree.Of(x, at), want, x, at)
	}
	got := tree.Kids(x)
	if len(got) != len(kids) {
		t.Fatal("kids", got, kids, x)
	}
	for i, kid := range kids {
		are(t, got[i], part(x.Nodes, kid), x, i)
	}
}

// bare is a tree of nodes with these kids, each of the simplest kind that may have so many.
func bare(kids ...[]int) api.Tree {
	var x api.Tree
	for _, l := range kids {
		kind := []api.NodeKind{api.NodeEmpty, api.NodeAtomic, api.NodeSeq}[min(len(l), 2)]
		x.Nodes = append(x.Nodes, api.Node{Kind: kind, Kids: l})
	}
	return x
}

// empty is a tree of one node.
func empty() api.Tree { return bare(nil) }

// above is a node above others, put together without the package.
func above(n api.Node, kids ...api.Tree) api.Tree {
	var l []api.Node
	n.Kids = nil
	for _, kid := range kids {
		l = append(l, moved(kid.Nodes, len(l))...)
		n.Kids = append(n.Kids, len(l)-1)
	}
	return api.Tree{Nodes: append(l, n)}
}

// chain is a tree of so many nodes, each one above the one before.
func chain(n int) api.Tree {
	kids := [][]int{nil}
	for at := range n - 1 {
		kids = append(kids, []int{at})
	}
	return bare(kids...)
}

// wide is a tree of so many nodes, the last one above all others.
func wide(n int) api.Tree {
	kids := make([][]int, n)
	for at := range n - 1 {
		kids[n-1] = append(kids[n-1], at)
	}
	return bare(kids...)
}

// named is a tree with names.
func named(x api.Tree, names ...string) api.Tree {
	x.Names = names
	return x
}

// leaves are nodes without kids, of all kinds that may have none.
func leaves(groups int) []api.Node {
	l := []api.Node{
		{Kind: api.NodeEmpty}, {Kind: api.NodeSet}, {Kind: api.NodeSet, Set: []api.Range{{Lo: 'a', Hi: 'z'}, {Lo: 200, Hi: 300}}},
		{Kind: api.NodeSpot, Spot: api.SpotStart}, {Kind: api.NodeSpot, Spot: api.SpotEnd}, {Kind: api.NodeSpot, Spot: api.SpotWord}, {Kind: api.NodeSpot, Spot: api.SpotInner},
	}
	for g := range groups {
		l = append(l, api.Node{Kind: api.NodeBack, Group: g + 1})
	}
	return l
}

// tops are nodes of all kinds that may have so many kids, but groups.
func tops(kids int) []api.Node {
	var l []api.Node
	for kind := range api.NodeKind(14) {
		for mode := range api.ModeKind(4) {
			for _, counts := range [][]int{{0, 0}, {0, -1}, {1, 3}, {1000, 1000}} {
				for _, not := range []bool{false, true} {
					n := api.Node{Kind: kind, Mode: mode, Min: counts[0], Max: counts[1], Not: not, Kids: make([]int, kids)}
					if kind != api.NodeGroup && ofKind(n) {
						l = append(l, n)
					}
				}
			}
		}
	}
	return l
}

// topsOf are tops by how many kids they have.
var topsOf = [][]api.Node{tops(0), tops(1), tops(2), tops(3)}

// some is a tree in order, of nodes of their kinds, some groups, and names for these.
func some(r *rand.Rand, high int) api.Tree {
	x := grown(r, high)
	count := 0
	for _, at := range begins(x.Nodes, len(x.Nodes)-1) {
		if n := &x.Nodes[at]; n.Kind == api.NodeGroup {
			count++
			n.Group = count
		}
	}
	for g := range count {
		x.Names = append(x.Names, []string{"", "n" + string(signs[g])}[r.Intn(2)])
	}
	for at := range x.Nodes {
		if n := &x.Nodes[at]; n.Kind == api.NodeBack && count > 0 {
			n.Group = 1 + r.Intn(count)
		} else if n.Kind == api.NodeBack {
			*n = api.Node{Kind: api.NodeEmpty}
		}
	}
	return x
}

func grown(r *rand.Rand, high int) api.Tree {
	many := r.Intn(4)
	if many == 0 || high < 2 {
		l := leaves(1)
		return above(l[r.Intn(len(l))])
	}
	var kids []api.Tree
	for range many {
		kids = append(kids, grown(r, high-1))
	}
	l := topsOf[many]
	if many == 1 && r.Intn(3) > 0 {
		l = []api.Node{{Kind: api.NodeGroup}}
	}
	return above(l[r.Intn(len(l))], kids...)
}
