package spread_test

import (
	"fmt"
	"math"
	"reflect"
	"slices"
	"testing"

	"tinder/api"
	"tinder/kind"
	"tinder/spread"
	"tinder/tree"
)

const (
	greedy = api.ModeGreedy
	lazy   = api.ModeLazy
	own    = api.ModeOwn

	top     = api.MaxPoint
	lowest  = math.MinInt
	highest = math.MaxInt
)

// row is ranges, by their ends.
func row(ends ...int) []api.Range {
	l := make([]api.Range, len(ends)/2)
	for i := range l {
		l[i] = api.Range{Lo: ends[2*i], Hi: ends[2*i+1]}
	}
	return l
}

// Trees of each kind, above others.

func set(ends ...int) api.Tree {
	return tree.Join(api.Node{Kind: api.NodeSet, Set: row(ends...)})
}

func a() api.Tree { return set('a', 'a') }

func b() api.Tree { return set('b', 'b') }

func of(kind api.NodeKind, kids ...api.Tree) api.Tree {
	return tree.Join(api.Node{Kind: kind}, kids...)
}

func empty() api.Tree { return of(api.NodeEmpty) }

func seq(kids ...api.Tree) api.Tree { return of(api.NodeSeq, kids...) }

func alt(kids ...api.Tree) api.Tree { return of(api.NodeAlt, kids...) }

// seqs is a sequence of one tree, so many times.
func seqs(n int, x api.Tree) api.Tree { return seq(slices.Repeat([]api.Tree{x}, n)...) }

func atomic(kid api.Tree) api.Tree { return of(api.NodeAtomic, kid) }

func group(n int, kid api.Tree) api.Tree {
	return tree.Join(api.Node{Kind: api.NodeGroup, Group: n}, kid)
}

func back(n int) api.Tree { return tree.Join(api.Node{Kind: api.NodeBack, Group: n}) }

func spot(kind api.SpotKind) api.Tree { return tree.Join(api.Node{Kind: api.NodeSpot, Spot: kind}) }

func start() api.Tree { return spot(api.SpotStart) }

func repeat(from, to int, mode api.ModeKind, kid api.Tree) api.Tree {
	return tree.Join(api.Node{Kind: api.NodeRepeat, Min: from, Max: to, Mode: mode}, kid)
}

// times is a repeat of just so many rounds.
func times(n int, kid api.Tree) api.Tree { return repeat(n, n, greedy, kid) }

// star is a repeat of any number of rounds.
func star(kid api.Tree) api.Tree { return repeat(0, -1, greedy, kid) }

func ahead(not bool, kid api.Tree) api.Tree {
	return tree.Join(api.Node{Kind: api.NodeAhead, Not: not}, kid)
}

func behind(not bool, kid api.Tree) api.Tree {
	return tree.Join(api.Node{Kind: api.NodeBehind, Not: not}, kid)
}

func try(mode api.ModeKind, kids ...api.Tree) api.Tree {
	return tree.Join(api.Node{Kind: api.NodeTry, Mode: mode}, kids...)
}

func fresh(kid api.Tree) api.Tree { return of(api.NodeFresh, kid) }

// named is the same tree with names for its groups.
func named(x api.Tree, names ...string) api.Tree {
	x.Names = names
	return x
}

// unnamed is the same tree with a group's empty name for each of its groups.
func unnamed(x api.Tree) api.Tree {
	x.Names = nil
	for _, n := range x.Nodes {
		if n.Kind == api.NodeGroup {
			x.Names = append(x.Names, "")
		}
	}
	return x
}

// clone is the same tree in memory of its own.
func clone(x api.Tree) api.Tree {
	x.Nodes, x.Names = slices.Clone(x.Nodes), slices.Clone(x.Names)
	for at := range x.Nodes {
		n := &x.Nodes[at]
		n.Set, n.Kids = slices.Clone(n.Set), slices.Clone(n.Kids)
	}
	return x
}

// bare is a tree in which no list without elements is told from a nil one.
func bare(x api.Tree) api.Tree {
	out := api.Tree{Names: listed(x.Names)}
	for _, n := range x.Nodes {
		n.Set, n.Kids = listed(n.Set), listed(n.Kids)
		out.Nodes = append(out.Nodes, n)
	}
	return out
}

func listed[E any](l []E) []E {
	if len(l) == 0 {
		return nil
	}
	return l
}

func same(a, b api.Tree) bool { return reflect.DeepEqual(bare(a), bare(b)) }

func shown(x any) string {
	text := fmt.Sprintf("%+v", x)
	return text[:min(len(text), 1000)]
}

// answer is all that is told of a tree.
type answer struct {
	out  api.Tree
	e    api.Errno
	size int
}

func answerOf(x api.Tree) (l answer) {
	l.out, l.e = spread.Out(x)
	l.size = spread.Size(x)
	return l
}

func (l answer) same(m answer) bool {
	return l.e == m.e && l.size == m.size && same(l.out, m.out)
}

// alike fails unless all that is told of a tree is what the chapter's words say, and what follows from them holds.
func alike(t testing.TB, x api.Tree) answer {
	t.Helper()
	got, want := answerOf(x), modelAnswer(x)
	if !got.same(want) {
		t.Fatalf("%s:\n%s; want\n%s", shown(x), shown(got), shown(want))
	}
	follows(t, x, got)
	return got
}

// follows fails unless what is told of a tree is such as P13.3 says, and nothing is told beside an error.
func follows(t testing.TB, x api.Tree, got answer) {
	t.Helper()
	if got.e != api.OK {
		if got.out.Nodes != nil || got.out.Names != nil {
			t.Fatal(shown(x), "is none, but", shown(got.out))
		}
		return
	}
	if !tree.Spread(got.out) || len(got.out.Nodes) != got.size {
		t.Fatal(shown(x), "not spread:", shown(got.out))
	}
	least, most := kind.Lengths(got.out)
	if wantLeast, wantMost := kind.Lengths(x); least != wantLeast || most != wantMost {
		t.Fatal(shown(x), wantLeast, wantMost, "as long as:", shown(got.out), least, most)
	}
}

// becomes fails unless that tree becomes of another one.
func becomes(t *testing.T, x, want api.Tree) {
	t.Helper()
	if got := alike(t, x); got.e != api.OK || !same(got.out, want) {
		t.Fatalf("%s: %v, %s; want %s", shown(x), got.e, shown(got.out), shown(want))
	}
}

// sized fails unless so many nodes become of a tree, or, if they are above 4000, it is too great.
func sized(t *testing.T, x api.Tree, want int) {
	t.Helper()
	got := alike(t, x)
	if want > 4000 {
		if got.e != api.ErrSize || got.size != 4001 {
			t.Fatalf("%s: %v, %d; want too many", shown(x), got.e, got.size)
		}
		return
	}
	if got.e != api.OK || got.size != want || len(got.out.Nodes) != want {
		t.Fatalf("%s: %v, %d, %d; want %d", shown(x), got.e, got.size, len(got.out.Nodes), want)
	}
}
