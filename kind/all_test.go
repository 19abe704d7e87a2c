package kind_test

import (
	"math/rand"
	"slices"
	"strings"
	"testing"

	"tinder/api"
	"tinder/early"
	"tinder/tree"
)

// sorts are what trees are made of: leaves, nodes above one tree, and nodes above two or more.
type sorts struct {
	leaves []api.Tree
	ones   []func(x api.Tree) api.Tree
	more   []func(kids ...api.Tree) api.Tree
}

// trees are all trees of so many nodes.
func (s sorts) trees(nodes int) []api.Tree {
	if nodes == 1 {
		return s.leaves
	}
	var l []api.Tree
	for _, x := range s.trees(nodes - 1) {
		for _, above := range s.ones {
			l = append(l, above(x))
		}
	}
	for _, kids := range s.rows(nodes - 1) {
		if len(kids) > 1 {
			for _, above := range s.more {
				l = append(l, above(kids...))
			}
		}
	}
	return l
}

// rows are all rows of trees that have so many nodes together.
func (s sorts) rows(nodes int) [][]api.Tree {
	if nodes == 0 {
		return [][]api.Tree{nil}
	}
	var l [][]api.Tree
	for n := 1; n <= nodes; n++ {
		for _, first := range s.trees(n) {
			for _, others := range s.rows(nodes - n) {
				l = append(l, append([]api.Tree{first}, others...))
			}
		}
	}
	return l
}

// numbered is the same tree, its groups numbered as they begin.
func numbered(x api.Tree) api.Tree {
	x = clone(x)
	number(&x, len(x.Nodes)-1)
	return x
}

func number(x *api.Tree, at int) {
	n := &x.Nodes[at]
	if n.Kind == api.NodeGroup {
		x.Names = append(x.Names, "")
		n.Group = len(x.Names)
	}
	for _, kid := range n.Kids {
		number(x, kid)
	}
}

// written are sorts of written trees.
func written() sorts {
	repeats := func(from, to int, mode api.ModeKind) func(x api.Tree) api.Tree {
		return func(x api.Tree) api.Tree { return repeat(from, to, mode, x) }
	}
	return sorts{
		leaves: []api.Tree{empty(), a(), start(), back(1)},
		ones: []func(x api.Tree) api.Tree{
			atomic, repeats(0, -1, lazy), repeats(1, 3, greedy), repeats(0, 2, own),
			func(x api.Tree) api.Tree { return group(1, x) },
			func(x api.Tree) api.Tree { return ahead(false, x) },
			func(x api.Tree) api.Tree { return behind(true, x) },
		},
		more: []func(kids ...api.Tree) api.Tree{seq, alt},
	}
}

// TestAllTrees: P12.1, P12.2, P12.3, all small trees, held against the chapter's words.
func TestAllTrees(t *testing.T) {
	t.Parallel()
	right, plain, loaded, over := 0, 0, 0, 0
	for nodes := 1; nodes <= 5; nodes++ {
		for _, x := range written().trees(nodes) {
			x = numbered(x)
			got := alike(t, x)
			right += count(tree.Right(x))
			plain += count(got.plain)
			loaded += count(got.loaded)
			over += count(got.is)
		}
	}
	// Some have what refers to a group, and none.
	if right < 15000 || plain < 2000 || loaded < 10000 || over < 15000 || over == right {
		t.Error(right, plain, loaded, over)
	}
}

func count(is bool) int {
	if is {
		return 1
	}
	return 0
}

// TestAllSpread: P12.1, the lengths of all small spread trees, held against the chapter's words; they have nothing else.
func TestAllSpread(t *testing.T) {
	t.Parallel()
	s := sorts{
		leaves: []api.Tree{empty(), a(), back(1)},
		ones: []func(x api.Tree) api.Tree{
			atomic, star, fresh,
			func(x api.Tree) api.Tree { return try(lazy, x) },
			func(x api.Tree) api.Tree { return ahead(true, x) },
			func(x api.Tree) api.Tree { return group(1, x) },
		},
		more: []func(kids ...api.Tree) api.Tree{seq, alt, func(kids ...api.Tree) api.Tree { return try(greedy, kids[:2]...) }},
	}
	spread := 0
	for nodes := 1; nodes <= 5; nodes++ {
		for _, x := range s.trees(nodes) {
			x.Names = []string{"n"}
			if !tree.Spread(x) {
				t.Fatal(shown(x))
			}
			if got := alike(t, x); !tree.Right(x) {
				spread++
				if got.plain || got.loaded || got.is {
					t.Fatal(shown(x), shown(got))
				}
			}
		}
	}
	if spread < 5000 {
		t.Error(spread)
	}
}

// maker makes trees, written or spread.
type maker struct {
	*rand.Rand
	spread bool
	groups int
	counts []int
}

// someTree is a written tree, at most so deep.
func someTree(r *rand.Rand, deep int) api.Tree {
	return made(&maker{Rand: r, counts: pick(r, []int{0, 1, 2, 3}, []int{0, 1, 2, 17, 1000})}, deep)
}

// someSpread is a spread tree, at most so deep.
func someSpread(r *rand.Rand, deep int) api.Tree {
	return made(&maker{Rand: r, spread: true}, deep)
}

// made is a whole tree. What refers is set anew, when it is known how many groups there are.
func made(m *maker, deep int) api.Tree {
	x := m.part(deep)
	for i := range m.groups {
		x.Names = append(x.Names, []string{"", "", string(rune('a' + i)), "N$_" + string(rune('a'+i))}[m.Intn(4)])
	}
	for at := range x.Nodes {
		n := &x.Nodes[at]
		if n.Kind == api.NodeBack && m.groups == 0 {
			*n = api.Node{Kind: api.NodeEmpty}
		} else if n.Kind == api.NodeBack {
			n.Group = 1 + m.Intn(m.groups)
		}
	}
	return x
}

// pick is one of a row, which is not empty.
func pick[E any](r *rand.Rand, l ...E) E { return l[r.Intn(len(l))] }

// part is some part of a tree, its groups numbered on.
func (m *maker) part(deep int) api.Tree {
	if deep <= 1 {
		return m.leaf()
	}
	deep--
	switch m.Intn(13) {
	case 0, 1, 2:
		return seq(m.kids(deep)...)
	case 3, 4:
		return alt(m.kids(deep)...)
	case 5:
		if m.groups < 20 {
			m.groups++
			n := m.groups
			return group(n, m.part(deep))
		}
		return atomic(m.part(deep))
	case 6:
		return atomic(m.part(deep))
	case 7, 8, 9:
		return m.repeat(deep)
	case 10:
		return ahead(m.Intn(2) > 0, m.part(deep))
	case 11:
		return behind(m.Intn(2) > 0, m.part(deep))
	}
	return m.leaf()
}

// repeat is a repeat; in a spread tree it is one without counts, or another node that only such trees have.
func (m *maker) repeat(deep int) api.Tree {
	if m.spread {
		switch mode := pick(m.Rand, greedy, lazy); m.Intn(4) {
		case 0:
			return fresh(m.part(deep))
		case 1:
			return try(mode, m.part(deep))
		case 2:
			return try(mode, m.part(deep), m.part(deep))
		default:
			return repeat(0, -1, mode, m.part(deep))
		}
	}
	from := pick(m.Rand, m.counts...)
	to := pick(m.Rand, -1, from, from, min(from+1, 1000), min(from+2, 1000))
	return repeat(from, to, pick(m.Rand, greedy, lazy, own), m.part(deep))
}

func (m *maker) kids(deep int) []api.Tree {
	var l []api.Tree
	for range 2 + m.Intn(3) {
		l = append(l, m.part(deep))
	}
	return l
}

func (m *maker) leaf() api.Tree {
	switch m.Intn(6) {
	case 0:
		return empty()
	case 1:
		return spot(api.SpotKind(1 + m.Intn(4)))
	case 2:
		return back(1)
	}
	return set(pick(m.Rand, nil, []int{'a', 'a'}, []int{'a', 'c', 'x', 'z'}, []int{0, top})...)
}

// TestSomeTrees: P12.1, P12.2, P12.3, trees of all sorts, held against the chapter's words.
func TestSomeTrees(t *testing.T) {
	t.Parallel()
	r := rand.New(rand.NewSource(121))
	plain, loaded, over, endless, ended := 0, 0, 0, 0, 0
	for range 10000 {
		x := someTree(r, 1+r.Intn(7))
		if !tree.Right(x) {
			t.Fatal(shown(x))
		}
		got := alike(t, x)
		plain += count(got.plain)
		loaded += count(got.loaded)
		over += count(got.is)
		endless += count(got.most == -1)
		ended += count(got.most > 0)
	}
	if plain < 2000 || loaded < 3000 || over < 8000 || over > 9900 || endless < 2000 || ended < 2000 {
		t.Error(plain, loaded, over, endless, ended)
	}
}

// TestSomeSpread: P12.1, the lengths of spread trees of all sorts, held against the chapter's words.
func TestSomeSpread(t *testing.T) {
	t.Parallel()
	r := rand.New(rand.NewSource(122))
	endless, ended := 0, 0
	for range 6000 {
		x := someSpread(r, 1+r.Intn(7))
		if !tree.Spread(x) {
			t.Fatal(shown(x))
		}
		got := alike(t, x)
		endless += count(got.most == -1)
		ended += count(got.most > 0)
	}
	if endless < 1000 || ended < 1000 {
		t.Error(endless, ended)
	}
}

// TestPatterns: P12.1, P12.2, P12.3, trees of patterns of all sorts, held against the chapter's words.
func TestPatterns(t *testing.T) {
	t.Parallel()
	pieces := []string{"a", ".", "^", "$", `\b`, `\B`, `\d`, "[^k-m]", "[]", "(", "(?:", "(?:", "(?>", "(?=", "(?!", "(?<=", "(?<!", "(?<n>", ")", ")", ")", ")*", ")+?", ")?+", "){2,3}+", "|", "|", "*", "+", "?", "{0}", "{3,}?", "{1,2}+", `\1`, `\k<n>`}
	r := rand.New(rand.NewSource(123))
	read, over := 0, 0
	for range 60000 {
		var b strings.Builder
		for range r.Intn(10) {
			b.WriteString(pieces[r.Intn(len(pieces))])
		}
		x, _, e := early.Read(b.String(), api.Flags{}, api.Tables{})
		if e != api.OK {
			continue
		}
		read++
		over += count(alike(t, x).is)
	}
	if read < 5000 || over < 4000 {
		t.Error(read, over)
	}
}

// TestNotPlain: P12.3, Over tells what is plain even of trees in each of whose nodes something stands that is not.
func TestNotPlain(t *testing.T) {
	odd := []api.Tree{atomic(a()), repeat(0, 2, own, a()), ahead(true, a()), behind(false, a())}
	for _, x := range odd {
		for _, y := range odd {
			for _, z := range odd {
				u := numbered(seq(x, group(1, alt(y, star(z))), back(1)))
				if got := alike(t, u); !got.is || got.plain {
					t.Error(shown(u))
				}
			}
		}
	}
	if got := alike(t, numbered(seq(slices.Concat(odd, odd, []api.Tree{group(1, empty()), back(1)})...))); !got.is {
		t.Error(shown(got))
	}
}
