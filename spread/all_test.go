package spread_test

import (
	"math/rand"
	"strings"
	"testing"

	"tinder/api"
	"tinder/early"
	"tinder/spread"
	"tinder/tree"
)

// sorts are what trees are made of: leaves, nodes above one tree, and nodes above two or more.
type sorts struct {
	leaves []api.Tree
	ones   []func(x api.Tree) api.Tree
	more   []func(kids ...api.Tree) api.Tree
}

// trees are all trees of so many nodes.
func (s sorts) trees(nodes int) []api.Tree {
	if nodes == 1 {
		return s.leaves
	}
	var l []api.Tree
	for _, x := range s.trees(nodes - 1) {
		for _, above := range s.ones {
			l = append(l, above(x))
		}
	}
	for _, kids := range s.rows(nodes - 1) {
		if len(kids) > 1 {
			for _, above := range s.more {
				l = append(l, above(kids...))
			}
		}
	}
	return l
}

// rows are all rows of trees that have so many nodes together.
func (s sorts) rows(nodes int) [][]api.Tree {
	if nodes == 0 {
		return [][]api.Tree{nil}
	}
	var l [][]api.Tree
	for n := 1; n <= nodes; n++ {
		for _, first := range s.trees(n) {
			for _, others := range s.rows(nodes - n) {
				l = append(l, append([]api.Tree{first}, others...))
			}
		}
	}
	return l
}

// numbered is the same tree, its groups numbered as they begin.
func numbered(x api.Tree) api.Tree {
	x = clone(x)
	number(&x, len(x.Nodes)-1)
	return x
}

func number(x *api.Tree, at int) {
	n := &x.Nodes[at]
	if n.Kind == api.NodeGroup {
		x.Names = append(x.Names, "")
		n.Group = len(x.Names)
	}
	for _, kid := range n.Kids {
		number(x, kid)
	}
}

// repeats are nodes above one tree: repeats of these counts, of each mode.
func repeats(counts ...[2]int) []func(x api.Tree) api.Tree {
	var l []func(x api.Tree) api.Tree
	for _, c := range counts {
		for _, mode := range []api.ModeKind{greedy, lazy, own} {
			l = append(l, func(x api.Tree) api.Tree { return repeat(c[0], c[1], mode, x) })
		}
	}
	return l
}

func groupOf(x api.Tree) api.Tree { return group(1, x) }

func aheadOf(x api.Tree) api.Tree { return ahead(false, x) }

func behindOf(x api.Tree) api.Tree { return behind(true, x) }

// TestAllTrees: P13.1, P13.2, P13.3, all small trees, held against the chapter's words.
func TestAllTrees(t *testing.T) {
	t.Parallel()
	s := sorts{
		leaves: []api.Tree{a(), back(1)},
		ones:   append(repeats([2]int{0, 0}, [2]int{1, 1}, [2]int{0, -1}, [2]int{1, 3}), atomic, groupOf, aheadOf, behindOf),
		more:   []func(kids ...api.Tree) api.Tree{seq, alt},
	}
	right, same := 0, 0
	for nodes := 1; nodes <= 4; nodes++ {
		for _, x := range s.trees(nodes) {
			x = numbered(x)
			got := alike(t, x)
			right += count(got.e == api.OK)
			same += count(got.size == len(x.Nodes))
		}
	}
	if right < 5000 || same < 400 {
		t.Error(right, same)
	}
}

// TestAllRows: P13.1, P13.2, P13.3, all trees of up to six nodes of a few sorts, held against the chapter's words: repeats in repeats, below looks and above groups.
func TestAllRows(t *testing.T) {
	t.Parallel()
	s := sorts{
		leaves: []api.Tree{a()},
		ones:   []func(x api.Tree) api.Tree{groupOf, behindOf, aheadOf, func(x api.Tree) api.Tree { return repeat(1, -1, lazy, x) }, func(x api.Tree) api.Tree { return repeat(2, 3, own, x) }, func(x api.Tree) api.Tree { return times(0, x) }},
		more:   []func(kids ...api.Tree) api.Tree{seq},
	}
	right := 0
	for nodes := 1; nodes <= 6; nodes++ {
		for _, x := range s.trees(nodes) {
			right += count(alike(t, numbered(x)).e == api.OK)
		}
	}
	if right < 10000 {
		t.Error(right)
	}
}

func count(is bool) int {
	if is {
		return 1
	}
	return 0
}

// maker makes written trees.
type maker struct {
	*rand.Rand
	groups int
	counts []int
}

// someTree is a written tree, at most so deep. What refers is set anew, when it is known how many groups there are.
func someTree(r *rand.Rand, deep int) api.Tree {
	m := &maker{Rand: r, counts: pick(r, []int{0, 1, 1, 2}, []int{0, 1, 2, 3}, []int{0, 1, 2, 3}, []int{0, 1, 2, 17, 1000})}
	x := m.part(deep)
	for i := range m.groups {
		x.Names = append(x.Names, []string{"", "", string(rune('a' + i)), "N$_" + string(rune('a'+i))}[m.Intn(4)])
	}
	for at := range x.Nodes {
		n := &x.Nodes[at]
		if n.Kind == api.NodeBack && m.groups == 0 {
			*n = api.Node{Kind: api.NodeEmpty}
		} else if n.Kind == api.NodeBack {
			n.Group = 1 + m.Intn(m.groups)
		}
	}
	return x
}

// pick is one of a row, which is not empty.
func pick[E any](r *rand.Rand, l ...E) E { return l[r.Intn(len(l))] }

// part is some part of a tree, its groups numbered on.
func (m *maker) part(deep int) api.Tree {
	if deep <= 1 {
		return m.leaf()
	}
	deep--
	switch m.Intn(13) {
	case 0, 1, 2:
		return seq(m.kids(deep)...)
	case 3, 4:
		return alt(m.kids(deep)...)
	case 5:
		if m.groups < 20 {
			m.groups++
			n := m.groups
			return group(n, m.part(deep))
		}
		return atomic(m.part(deep))
	case 6:
		return atomic(m.part(deep))
	case 7, 8, 9:
		from := pick(m.Rand, m.counts...)
		to := pick(m.Rand, -1, from, from, min(from+1, 1000), min(from+2, 1000))
		return repeat(from, to, pick(m.Rand, greedy, lazy, own), m.part(deep))
	case 10:
		return ahead(m.Intn(2) > 0, m.part(deep))
	case 11:
		return behind(m.Intn(2) > 0, m.part(deep))
	}
	return m.leaf()
}

func (m *maker) kids(deep int) []api.Tree {
	var l []api.Tree
	for range 2 + m.Intn(3) {
		l = append(l, m.part(deep))
	}
	return l
}

func (m *maker) leaf() api.Tree {
	switch m.Intn(6) {
	case 0:
		return empty()
	case 1:
		return spot(api.SpotKind(1 + m.Intn(4)))
	case 2:
		return back(1)
	}
	return set(pick(m.Rand, nil, []int{'a', 'a'}, []int{'a', 'c', 'x', 'z'}, []int{0, top})...)
}

// TestSomeTrees: P13.1, P13.2, P13.3, trees of all sorts, held against the chapter's words.
func TestSomeTrees(t *testing.T) {
	t.Parallel()
	r := rand.New(rand.NewSource(131))
	right, great, wide := 0, 0, 0
	for range 4000 {
		x := someTree(r, 1+r.Intn(7))
		got := alike(t, x)
		if got.e == api.ErrShape {
			t.Fatal(shown(x))
		}
		right += count(got.e == api.OK)
		great += count(got.e == api.ErrSize)
		wide += count(got.size > 200)
	}
	if right < 3000 || great < 100 || wide < 300 {
		t.Error(right, great, wide)
	}
}

// TestSomePatterns: P13.1, P13.2, P13.3, trees of patterns of all sorts, held against the chapter's words.
func TestSomePatterns(t *testing.T) {
	t.Parallel()
	pieces := []string{"a", ".", "^", `\b`, `\d`, "[]", "(", "(?:", "(?:", "(?>", "(?=", "(?!", "(?<=", "(?<!", "(?<n>", ")", ")", ")", ")*", ")+?", ")?+", "){2,3}+", "|", "*", "+", "?", "{0}", "{3,}?", "{1,2}+", "{2}", `\1`, `\k<n>`}
	r := rand.New(rand.NewSource(132))
	read, grown := 0, 0
	for range 60000 {
		var b strings.Builder
		for range r.Intn(10) {
			b.WriteString(pieces[r.Intn(len(pieces))])
		}
		x, _, e := early.Read(b.String(), api.Flags{}, api.Tables{})
		if e != api.OK {
			continue
		}
		read++
		grown += count(alike(t, x).size > len(x.Nodes))
	}
	if read < 5000 || grown < 400 {
		t.Error(read, grown)
	}
}

// TestAgain: P13.1, P13.2, P13.3, what becomes of a tree and is written still becomes itself.
func TestAgain(t *testing.T) {
	t.Parallel()
	r := rand.New(rand.NewSource(133))
	again := 0
	for range 4000 {
		x, e := spread.Out(someTree(r, 1+r.Intn(4)))
		if e != api.OK || !tree.Right(x) {
			continue
		}
		again++
		becomes(t, x, x)
	}
	if again < 1500 {
		t.Error(again)
	}
}
