package show_test

import (
	"math/rand"
	"strings"
	"testing"

	"tinder/api"
	"tinder/early"
	"tinder/show"
	"tinder/tree"
)

// leaves are nodes without kids, one of each sort that a text tells apart.
func leaves() []api.Tree {
	return []api.Tree{empty(), set(), set('a', 'b'), start(), back(1)}
}

// ones are nodes above one tree.
func ones(x api.Tree) []api.Tree {
	return []api.Tree{group(1, x), atomic(x), ahead(false, x), behind(true, x), repeat(0, -1, lazy, x), repeat(2, 3, own, x)}
}

// trees are all trees of so many nodes, of few sorts; its groups are all of number 1.
func trees(nodes int) []api.Tree {
	if nodes == 1 {
		return leaves()
	}
	var l []api.Tree
	for _, x := range trees(nodes - 1) {
		l = append(l, ones(x)...)
	}
	for _, kids := range rows(nodes - 1) {
		if len(kids) > 1 {
			l = append(l, seq(kids...), alt(kids...))
		}
	}
	return l
}

// rows are all rows of trees that have so many nodes together.
func rows(nodes int) [][]api.Tree {
	if nodes == 0 {
		return [][]api.Tree{nil}
	}
	var l [][]api.Tree
	for n := 1; n <= nodes; n++ {
		for _, first := range trees(n) {
			for _, others := range rows(nodes - n) {
				l = append(l, append([]api.Tree{first}, others...))
			}
		}
	}
	return l
}

// numbered is the same tree, its groups numbered as they begin, those of odd numbers named if need be.
func numbered(x api.Tree, name bool) api.Tree {
	x = clone(x)
	number(&x, len(x.Nodes)-1, name)
	return x
}

func number(x *api.Tree, at int, name bool) {
	n := &x.Nodes[at]
	if n.Kind == api.NodeGroup {
		names := []string{""}
		if len(x.Names)%2 == 0 && name {
			names[0] = "n" + strings.Repeat("m", len(x.Names))
		}
		x.Names = append(x.Names, names...)
		n.Group = len(x.Names)
	}
	for _, kid := range n.Kids {
		number(x, kid, name)
	}
}

// TestAllTrees: P11.1, P11.2, all small trees, held against the chapter's words; and no two that differ have one text.
func TestAllTrees(t *testing.T) {
	t.Parallel()
	met := map[string]api.Tree{}
	wrong := 0
	for nodes := 1; nodes <= 5; nodes++ {
		for _, x := range trees(nodes) {
			for _, name := range []bool{false, true} {
				x := numbered(x, name)
				if name && len(x.Names) == 0 {
					continue
				}
				text, e := alike(t, x)
				if e != api.OK {
					wrong++
					continue
				}
				if before, is := met[text]; is {
					t.Fatal(text, shown(before), shown(x))
				}
				met[text] = x
			}
		}
	}
	// What refers to a group, where there is none, is wrong.
	if len(met) < 10000 || wrong < 5000 {
		t.Error(len(met), wrong)
	}
}

// maker makes written trees.
type maker struct {
	*rand.Rand
	groups int
}

// someTree is a written tree, at most so deep.
func someTree(r *rand.Rand, deep int) api.Tree {
	m := &maker{Rand: r}
	x := m.part(deep)
	for i := range m.groups {
		x.Names = append(x.Names, []string{"", "", string(rune('a' + i)), "N$_" + string(rune('0'+i%10)) + string(rune('a'+i))}[r.Intn(4)])
	}
	// What refers is set anew, when it is known how many groups there are.
	for at := range x.Nodes {
		n := &x.Nodes[at]
		if n.Kind == api.NodeBack && m.groups == 0 {
			*n = api.Node{Kind: api.NodeEmpty}
		} else if n.Kind == api.NodeBack {
			n.Group = 1 + r.Intn(m.groups)
		}
	}
	return x
}

// part is some part of a tree, its groups numbered on.
func (m *maker) part(deep int) api.Tree {
	if deep <= 1 {
		return m.leaf()
	}
	deep--
	switch m.Intn(12) {
	case 0, 1:
		return seq(m.kids(deep)...)
	case 2, 3:
		return alt(m.kids(deep)...)
	case 4, 5:
		if m.groups < 20 {
			m.groups++
			n := m.groups
			return group(n, m.part(deep))
		}
		return atomic(m.part(deep))
	case 6:
		return atomic(m.part(deep))
	case 7, 8:
		from := []int{0, 0, 1, 2, 17, 1000}[m.Intn(6)]
		to := []int{-1, -1, from, min(from+1, 1000), 1000}[m.Intn(5)]
		return repeat(from, to, []api.ModeKind{greedy, lazy, own}[m.Intn(3)], m.part(deep))
	case 9:
		return ahead(m.Intn(2) > 0, m.part(deep))
	case 10:
		return behind(m.Intn(2) > 0, m.part(deep))
	}
	return m.leaf()
}

func (m *maker) kids(deep int) []api.Tree {
	var l []api.Tree
	for range 2 + m.Intn(3) {
		l = append(l, m.part(deep))
	}
	return l
}

func (m *maker) leaf() api.Tree {
	switch m.Intn(5) {
	case 0:
		return empty()
	case 1:
		return spot(api.SpotKind(1 + m.Intn(4)))
	case 2:
		return back(1)
	}
	var ends []int
	for at := m.Intn(200); m.Intn(3) > 0 && at < top; at += 2 + m.Intn(1<<m.Intn(20)) {
		to := min(top, at+m.Intn(2)*m.Intn(1<<m.Intn(20)))
		ends = append(ends, at, to)
		at = to
	}
	return set(ends...)
}

// TestSomeTrees: P11.1, P11.2, written trees of all sorts, held against the chapter's words.
func TestSomeTrees(t *testing.T) {
	t.Parallel()
	r := rand.New(rand.NewSource(112))
	many := map[api.Errno]int{}
	for range 3000 {
		x := someTree(r, 1+r.Intn(9))
		if !tree.Right(x) {
			t.Fatal(shown(x))
		}
		_, e := alike(t, x)
		many[e]++
	}
	if many[api.OK] < 2000 || many[api.ErrLong] < 20 || len(many) != 2 {
		t.Error(many)
	}
}

// TestPatterns: P11.2, patterns of all sorts: their trees' texts are read as the same trees, and are their own texts.
func TestPatterns(t *testing.T) {
	t.Parallel()
	tables := api.Tables{Folds: []api.Fold{{From: 'A', To: 'a'}, {From: 'K', To: 'k'}, {From: 0x212A, To: 'k'}}, Props: []api.Prop{{Name: "Lu", Set: row('A', 'Z')}, {Name: "None"}}}
	pieces := []string{"a", "K", "é", ".", "^", "$", `\b`, `\B`, `\d`, `\W`, `\S`, `\p{Lu}`, `\P{None}`, "[^k-m]", "[]", "[^]", `[\b\-x-]`, `\u{1F600}`, `\uD83D\uDE00`, `\/`, "(", "(?:", "(?>", "(?=", "(?!", "(?<=", "(?<!", "(?<n>", "(?<m>", ")", ")", ")*", ")+?", "){2,3}+", "|", "|", "*", "+", "?", "{0}", "{3,}?", "{1,2}+", `\1`, `\2`, `\k<n>`, `\k<m>`}
	r := rand.New(rand.NewSource(113))
	many := 0
	for range 80000 {
		var b strings.Builder
		for range r.Intn(9) {
			b.WriteString(pieces[r.Intn(len(pieces))])
		}
		flags := api.Flags{Fold: r.Intn(2) > 0, Lines: r.Intn(2) > 0, All: r.Intn(2) > 0, Sticky: r.Intn(2) > 0}
		x, _, e := early.Read(b.String(), flags, tables)
		if e != api.OK {
			continue
		}
		many++
		text, e := alike(t, x)
		if e != api.OK {
			t.Fatalf("%q: %v", b.String(), e)
		}
		again, _, _ := early.Read(text, api.Flags{}, api.Tables{})
		if twice, e := show.Text(again); e != api.OK || twice != text {
			t.Fatalf("%q: %v, %q, %q", b.String(), e, text, twice)
		}
	}
	if many < 8000 {
		t.Error(many)
	}
}
