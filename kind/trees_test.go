package kind_test

import (
	"fmt"
	"math"
	"reflect"
	"slices"
	"testing"

	"tinder/api"
	"tinder/kind"
	"tinder/tree"
)

const (
	greedy = api.ModeGreedy
	lazy   = api.ModeLazy
	own    = api.ModeOwn

	top     = api.MaxPoint
	lowest  = math.MinInt
	highest = math.MaxInt
)

// row is ranges, by their ends.
func row(ends ...int) []api.Range {
	l := make([]api.Range, len(ends)/2)
	for i := range l {
		l[i] = api.Range{Lo: ends[2*i], Hi: ends[2*i+1]}
	}
	return l
}

// Trees of each kind, above others.

func set(ends ...int) api.Tree {
	return tree.Join(api.Node{Kind: api.NodeSet, Set: row(ends...)})
}

func a() api.Tree { return set('a', 'a') }

func of(kind api.NodeKind, kids ...api.Tree) api.Tree {
	return tree.Join(api.Node{Kind: kind}, kids...)
}

func empty() api.Tree { return of(api.NodeEmpty) }

func seq(kids ...api.Tree) api.Tree { return of(api.NodeSeq, kids...) }

func alt(kids ...api.Tree) api.Tree { return of(api.NodeAlt, kids...) }

// seqs and alts are of one tree, so many times.
func seqs(n int, x api.Tree) api.Tree { return seq(slices.Repeat([]api.Tree{x}, n)...) }

func alts(n int, x api.Tree) api.Tree { return alt(slices.Repeat([]api.Tree{x}, n)...) }

func atomic(kid api.Tree) api.Tree { return of(api.NodeAtomic, kid) }

func group(n int, kid api.Tree) api.Tree {
	return tree.Join(api.Node{Kind: api.NodeGroup, Group: n}, kid)
}

func back(n int) api.Tree { return tree.Join(api.Node{Kind: api.NodeBack, Group: n}) }

func spot(kind api.SpotKind) api.Tree { return tree.Join(api.Node{Kind: api.NodeSpot, Spot: kind}) }

func start() api.Tree { return spot(api.SpotStart) }

func repeat(from, to int, mode api.ModeKind, kid api.Tree) api.Tree {
	return tree.Join(api.Node{Kind: api.NodeRepeat, Min: from, Max: to, Mode: mode}, kid)
}

// star is a repeat of any number of rounds.
func star(kid api.Tree) api.Tree { return repeat(0, -1, greedy, kid) }

func ahead(not bool, kid api.Tree) api.Tree {
	return tree.Join(api.Node{Kind: api.NodeAhead, Not: not}, kid)
}

func behind(not bool, kid api.Tree) api.Tree {
	return tree.Join(api.Node{Kind: api.NodeBehind, Not: not}, kid)
}

func try(mode api.ModeKind, kids ...api.Tree) api.Tree {
	return tree.Join(api.Node{Kind: api.NodeTry, Mode: mode}, kids...)
}

func fresh(kid api.Tree) api.Tree { return of(api.NodeFresh, kid) }

// named is the same tree with names for its groups.
func named(x api.Tree, names ...string) api.Tree {
	x.Names = names
	return x
}

// unnamed is the same tree with a group's empty name for each of its groups.
func unnamed(x api.Tree) api.Tree {
	x.Names = nil
	for _, n := range x.Nodes {
		if n.Kind == api.NodeGroup {
			x.Names = append(x.Names, "")
		}
	}
	return x
}

// Parts of what Over tells.

func anything() api.Tree { return star(set(0, top)) }

func probe() api.Tree { return alt(set(), empty()) }

// asks is a choice of so many dead sets, and of nothing.
func asks(n int) api.Tree { return alt(append(slices.Repeat([]api.Tree{set()}, n), empty())...) }

// clone is the same tree in memory of its own.
func clone(x api.Tree) api.Tree {
	x.Nodes, x.Names = slices.Clone(x.Nodes), slices.Clone(x.Names)
	for at := range x.Nodes {
		n := &x.Nodes[at]
		n.Set, n.Kids = slices.Clone(n.Set), slices.Clone(n.Kids)
	}
	return x
}

// bare is a tree in which no list without elements is told from a nil one.
func bare(x api.Tree) api.Tree {
	out := api.Tree{Names: listed(x.Names)}
	for _, n := range x.Nodes {
		n.Set, n.Kids = listed(n.Set), listed(n.Kids)
		out.Nodes = append(out.Nodes, n)
	}
	return out
}

func listed[E any](l []E) []E {
	if len(l) == 0 {
		return nil
	}
	return l
}

func same(a, b api.Tree) bool { return reflect.DeepEqual(bare(a), bare(b)) }

func shown(x any) string {
	text := fmt.Sprintf("%+v", x)
	return text[:min(len(text), 2000)]
}

// answer is all that is told of a tree.
type answer struct {
	least, most  int
	plain        bool
	probes, ways int
	loaded       bool
	over         api.Tree
	is           bool
}

func answerOf(x api.Tree) (out answer) {
	out.least, out.most = kind.Lengths(x)
	out.plain = kind.Plain(x)
	out.probes, out.ways, out.loaded = kind.Load(x)
	out.over, out.is = kind.Over(x)
	return out
}

func (l answer) same(m answer) bool {
	over := same(l.over, m.over)
	l.over, m.over = api.Tree{}, api.Tree{}
	return over && reflect.DeepEqual(l, m)
}

// alike fails unless all that is told of a tree is what the chapter's words say, and what follows from them holds.
func alike(t testing.TB, x api.Tree) answer {
	t.Helper()
	got, want := answerOf(x), modelAnswer(x)
	if !got.same(want) {
		t.Fatalf("%s:\n%s; want\n%s", shown(x), shown(got), shown(want))
	}
	follows(t, x, got)
	return got
}

// follows fails unless what is told of a tree is such as P12.3 says, and no list without elements is handed out where there is none.
func follows(t testing.TB, x api.Tree, got answer) {
	t.Helper()
	if !got.is {
		if got.over.Nodes != nil || got.over.Names != nil {
			t.Fatal(shown(x), "is not, but", shown(got.over))
		}
		return
	}
	u := got.over
	if !tree.Right(u) || !kind.Plain(u) || len(u.Names) > 0 || slices.ContainsFunc(u.Nodes, func(n api.Node) bool { return n.Kind == api.NodeGroup }) {
		t.Fatal(shown(x), "not plain:", shown(u))
	}
	least, most := kind.Lengths(u)
	if least > got.least || most != -1 && (got.most == -1 || most < got.most) {
		t.Fatal(shown(x), got.least, got.most, "not above:", shown(u), least, most)
	}
	// What is plain, without groups, becomes itself: so does what Over tells.
	if again, is := kind.Over(u); !is || !same(again, u) {
		t.Fatal(shown(u), "becomes", shown(again))
	}
	if got.plain && len(x.Names) == 0 && !same(u, x) {
		t.Fatal(shown(x), "becomes", shown(u))
	}
}

// has fails unless a tree has these lengths.
func has(t *testing.T, x api.Tree, least, most int) {
	t.Helper()
	if got := alike(t, x); got.least != least || got.most != most {
		t.Errorf("%s: %d, %d; want %d, %d", shown(x), got.least, got.most, least, most)
	}
}

// loads fails unless a tree has that load.
func loads(t *testing.T, x api.Tree, probes, ways int) {
	t.Helper()
	if got := alike(t, x); got.probes != probes || got.ways != ways || !got.loaded {
		t.Errorf("%s: %d, %d, %v; want %d, %d", shown(x), got.probes, got.ways, got.loaded, probes, ways)
	}
}

// loadless fails unless a tree has no load, though it is written.
func loadless(t *testing.T, x api.Tree) {
	t.Helper()
	if got := alike(t, x); !tree.Right(x) || got.probes != 0 || got.ways != 0 || got.loaded {
		t.Errorf("%s: %d, %d, %v", shown(x), got.probes, got.ways, got.loaded)
	}
}

// becomes fails unless that tree stands above another one.
func becomes(t *testing.T, x, want api.Tree) {
	t.Helper()
	if got := alike(t, x); !got.is || !same(got.over, want) {
		t.Errorf("%s: %v, %s; want %s", shown(x), got.is, shown(got.over), shown(want))
	}
}

// overless fails unless no tree stands above another one, though that is written.
func overless(t *testing.T, x api.Tree) {
	t.Helper()
	if got := alike(t, x); !tree.Right(x) || got.is {
		t.Errorf("%s: %v, %s", shown(x), got.is, shown(got.over))
	}
}
