package early_test

import (
	"fmt"
	"math"
	"reflect"
	"slices"
	"strings"
	"testing"

	"tinder/api"
	"tinder/early"
	"tinder/parse"
)

const (
	top   = api.MaxPoint
	least = math.MinInt
	most  = math.MaxInt
)

// name40 is a name of the greatest length.
var name40 = strings.Repeat("aZ_$09", 7)[:40]

// allFlags are those of any bits.
func allFlags() []api.Flags {
	var l []api.Flags
	for bits := range 16 {
		l = append(l, api.Flags{Fold: bits&1 > 0, Lines: bits&2 > 0, All: bits&4 > 0, Sticky: bits&8 > 0})
	}
	return l
}

// of is a row of ranges, by their ends.
func of(ends ...int) []api.Range {
	l := make([]api.Range, len(ends)/2)
	for i := range l {
		l[i] = api.Range{Lo: ends[2*i], Hi: ends[2*i+1]}
	}
	return l
}

// tables are right: some folds, and sets with names.
func tables() api.Tables {
	return api.Tables{
		Folds: []api.Fold{{From: 'A', To: 'a'}, {From: 'K', To: 'k'}, {From: 0x212A, To: 'k'}},
		Props: []api.Prop{{Name: "Lu", Set: of('A', 'Z')}, {Name: "None"}},
	}
}

// A row of nodes, as kinds and what these have.
var (
	empty = api.Node{Kind: api.NodeEmpty}
	back  = api.Node{Kind: api.NodeBack}
)

func set(ends ...int) api.Node { return api.Node{Kind: api.NodeSet, Set: of(ends...)} }

func group(n, kid int) api.Node {
	return api.Node{Kind: api.NodeGroup, Group: n, Kids: []int{kid}}
}

func backTo(n int) api.Node { return api.Node{Kind: api.NodeBack, Group: n} }

func above(kind api.NodeKind, kids ...int) api.Node { return api.Node{Kind: kind, Kids: kids} }

// raw is what is read of a pattern that is one.
func raw(t testing.TB, text string) parse.Raw {
	t.Helper()
	r, at, e := parse.Read(text, api.Flags{}, tables())
	if e != api.OK {
		t.Fatalf("%q: %v at %d", text, e, at)
	}
	return r
}

// clone is the same raw pattern in memory of its own.
func clone(r parse.Raw) parse.Raw {
	r.Tree = cloneTree(r.Tree)
	r.Refs, r.Places = slices.Clone(r.Refs), slices.Clone(r.Places)
	return r
}

func cloneTree(x api.Tree) api.Tree {
	x.Nodes, x.Names = slices.Clone(x.Nodes), slices.Clone(x.Names)
	for at := range x.Nodes {
		n := &x.Nodes[at]
		n.Set, n.Kids = slices.Clone(n.Set), slices.Clone(n.Kids)
	}
	return x
}

// bare is a tree in which no list without elements is told from a nil one.
func bare(x api.Tree) api.Tree {
	out := api.Tree{Names: listed(x.Names)}
	for _, n := range x.Nodes {
		out.Nodes = append(out.Nodes, bareNode(n))
	}
	return out
}

func bareNode(n api.Node) api.Node {
	n.Set, n.Kids = listed(n.Set), listed(n.Kids)
	return n
}

func listed[E any](l []E) []E {
	if len(l) == 0 {
		return nil
	}
	return l
}

func same(a, b api.Tree) bool { return reflect.DeepEqual(bare(a), bare(b)) }

func shown(x any) string {
	text := fmt.Sprintf("%+v", x)
	return text[:min(len(text), 2000)]
}

// alike fails unless Resolve tells what the chapter's words say.
func alike(t testing.TB, r parse.Raw) (api.Tree, int, api.Errno) {
	t.Helper()
	x, at, e := early.Resolve(r)
	want, wantAt, wantE := modelResolve(r)
	if at != wantAt || e != wantE {
		t.Fatalf("%s: %v at %d; want %v at %d", shown(r), e, at, wantE, wantAt)
	}
	if e != api.OK && !reflect.DeepEqual(x, api.Tree{}) {
		t.Fatalf("%s: %v, and %s", shown(r), e, shown(x))
	}
	if !same(x, want) {
		t.Fatalf("%s:\n%s; want\n%s", shown(r), shown(x), shown(want))
	}
	return x, at, e
}

// alikeRead fails unless Read tells what the chapter's words say.
func alikeRead(t testing.TB, text string, flags api.Flags, x api.Tables) (api.Tree, int, api.Errno) {
	t.Helper()
	got, at, e := early.Read(text, flags, x)
	want, wantAt, wantE := modelRead(text, flags, x)
	if at != wantAt || e != wantE {
		t.Fatalf("%.200q, %v: %v at %d; want %v at %d", text, flags, e, at, wantE, wantAt)
	}
	if e != api.OK && !reflect.DeepEqual(got, api.Tree{}) {
		t.Fatalf("%.200q, %v: %v, and %s", text, flags, e, shown(got))
	}
	if !same(got, want) {
		t.Fatalf("%.200q, %v:\n%s; want\n%s", text, flags, shown(got), shown(want))
	}
	return got, at, e
}

// reads fails unless a pattern is read as these nodes and names, whatever the flags; sets of it must not hang on these.
func reads(t *testing.T, text string, names []string, nodes ...api.Node) {
	t.Helper()
	want := api.Tree{Nodes: nodes, Names: names}
	for _, flags := range allFlags() {
		if x, at, e := alikeRead(t, text, flags, api.Tables{}); e != api.OK || at != 0 || !same(x, want) {
			t.Errorf("%q, %v: %v at %d, %s; want %s", text, flags, e, at, shown(x), shown(want))
		}
	}
	resolves(t, raw(t, text), want)
}

// fails fails unless a pattern may not be, whatever the flags: at that place, wherever the pattern begins.
func fails(t *testing.T, text string, e api.Errno, at int) {
	t.Helper()
	for _, flags := range allFlags() {
		failsAt(t, text, flags, e, at)
	}
	failsAt(t, "é|"+text, api.Flags{Fold: true}, e, at+2)
	failsAt(t, "(?:)\U0001F600"+text, api.Flags{Lines: true}, e, at+5)
}

func failsAt(t *testing.T, text string, flags api.Flags, e api.Errno, at int) {
	t.Helper()
	if _, gotAt, got := alikeRead(t, text, flags, tables()); got != e || gotAt != at {
		t.Errorf("%.200q, %v: %v at %d; want %v at %d", text, flags, got, gotAt, e, at)
	}
}

// resolves fails unless a raw pattern has that tree.
func resolves(t *testing.T, r parse.Raw, want api.Tree) {
	t.Helper()
	if x, at, e := alike(t, r); e != api.OK || at != 0 || !same(x, want) {
		t.Errorf("%s: %v at %d, %s; want %s", shown(r), e, at, shown(x), shown(want))
	}
}

// refuses fails unless a raw pattern has that error, at that place.
func refuses(t *testing.T, r parse.Raw, e api.Errno, at int) {
	t.Helper()
	if _, gotAt, got := alike(t, r); got != e || gotAt != at {
		t.Errorf("%s: %v at %d; want %v at %d", shown(r), got, gotAt, e, at)
	}
}
