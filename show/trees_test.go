package show_test

import (
	"fmt"
	"math"
	"reflect"
	"slices"
	"strings"
	"testing"

	"tinder/api"
	"tinder/early"
	"tinder/parse"
	"tinder/show"
	"tinder/tree"
)

const (
	top   = api.MaxPoint
	least = math.MinInt
	most  = math.MaxInt
)

// name40 is a name of the greatest length.
var name40 = strings.Repeat("aZ_$09", 7)[:40]

// row is ranges, by their ends.
func row(ends ...int) []api.Range {
	l := make([]api.Range, len(ends)/2)
	for i := range l {
		l[i] = api.Range{Lo: ends[2*i], Hi: ends[2*i+1]}
	}
	return l
}

// Trees of each kind, above others.

func set(ends ...int) api.Tree {
	return tree.Join(api.Node{Kind: api.NodeSet, Set: row(ends...)})
}

func of(kind api.NodeKind, kids ...api.Tree) api.Tree {
	return tree.Join(api.Node{Kind: kind}, kids...)
}

func empty() api.Tree { return of(api.NodeEmpty) }

func seq(kids ...api.Tree) api.Tree { return of(api.NodeSeq, kids...) }

func alt(kids ...api.Tree) api.Tree { return of(api.NodeAlt, kids...) }

func atomic(kid api.Tree) api.Tree { return of(api.NodeAtomic, kid) }

func group(n int, kid api.Tree) api.Tree {
	return tree.Join(api.Node{Kind: api.NodeGroup, Group: n}, kid)
}

func back(n int) api.Tree { return tree.Join(api.Node{Kind: api.NodeBack, Group: n}) }

func spot(kind api.SpotKind) api.Tree { return tree.Join(api.Node{Kind: api.NodeSpot, Spot: kind}) }

func start() api.Tree { return spot(api.SpotStart) }

func repeat(from, to int, mode api.ModeKind, kid api.Tree) api.Tree {
	return tree.Join(api.Node{Kind: api.NodeRepeat, Min: from, Max: to, Mode: mode}, kid)
}

func ahead(not bool, kid api.Tree) api.Tree {
	return tree.Join(api.Node{Kind: api.NodeAhead, Not: not}, kid)
}

func behind(not bool, kid api.Tree) api.Tree {
	return tree.Join(api.Node{Kind: api.NodeBehind, Not: not}, kid)
}

// named is the same tree with names for its groups.
func named(x api.Tree, names ...string) api.Tree {
	x.Names = names
	return x
}

// unnamed is the same tree with a group's empty name for each of its groups.
func unnamed(x api.Tree) api.Tree {
	x.Names = nil
	for _, n := range x.Nodes {
		if n.Kind == api.NodeGroup {
			x.Names = append(x.Names, "")
		}
	}
	return x
}

// clone is the same tree in memory of its own.
func clone(x api.Tree) api.Tree {
	x.Nodes, x.Names = slices.Clone(x.Nodes), slices.Clone(x.Names)
	for at := range x.Nodes {
		n := &x.Nodes[at]
		n.Set, n.Kids = slices.Clone(n.Set), slices.Clone(n.Kids)
	}
	return x
}

// bare is a tree in which no list without elements is told from a nil one.
func bare(x api.Tree) api.Tree {
	out := api.Tree{Names: listed(x.Names)}
	for _, n := range x.Nodes {
		n.Set, n.Kids = listed(n.Set), listed(n.Kids)
		out.Nodes = append(out.Nodes, n)
	}
	return out
}

func listed[E any](l []E) []E {
	if len(l) == 0 {
		return nil
	}
	return l
}

func same(a, b api.Tree) bool { return reflect.DeepEqual(bare(a), bare(b)) }

func shown(x any) string {
	text := fmt.Sprintf("%+v", x)
	return text[:min(len(text), 2000)]
}

// shows fails unless a tree has that text, and is read from it again.
func shows(t *testing.T, x api.Tree, want string) {
	t.Helper()
	if text, e := alike(t, x); e != api.OK || text != want {
		t.Errorf("%s: %v, %q; want %q", shown(x), e, text, want)
	}
}

// refuses fails unless a tree has that error.
func refuses(t *testing.T, x api.Tree, want api.Errno) {
	t.Helper()
	if text, e := show.Text(x); e != want || text != "" {
		t.Errorf("%s: %v, %.200q; want %v", shown(x), e, text, want)
	}
}

// alike fails unless Text tells what the chapter's words say, and what it tells is read as the tree again.
func alike(t testing.TB, x api.Tree) (string, api.Errno) {
	t.Helper()
	text, e := show.Text(x)
	want, wantE := modelText(x)
	if text != want || e != wantE {
		t.Fatalf("%s: %v, %.200q; want %v, %.200q", shown(x), e, text, wantE, want)
	}
	if e == api.OK {
		follows(t, x, text)
	}
	return text, e
}

// readers are what a text is read with: each flag but Fold, set and not; and some tables.
func readers() ([]api.Flags, []api.Tables) {
	var flags []api.Flags
	for bits := range 8 {
		flags = append(flags, api.Flags{Lines: bits&1 > 0, All: bits&2 > 0, Sticky: bits&4 > 0})
	}
	return flags, []api.Tables{{}, {Folds: []api.Fold{{From: 'A', To: 'a'}, {From: 'b', To: 'a'}}, Props: []api.Prop{{Name: "Lu", Set: row('A', 'Z')}}}}
}

// follows fails unless a text is read as just the tree, whatever the flags but Fold, and the tables.
func follows(t testing.TB, x api.Tree, text string) {
	t.Helper()
	flags, tables := readers()
	want := withoutGroups(x)
	for i, flag := range flags {
		table := tables[i%2]
		raw, at, e := parse.Read(text, flag, table)
		if e != api.OK || at != 0 || !same(raw.Tree, want) || !reflect.DeepEqual(listed(referred(raw)), listed(refers(x))) {
			t.Fatalf("%s:\n%.200q, %v: %v at %d, %s", shown(x), text, flag, e, at, shown(raw))
		}
		// And so it is the same tree again, the groups of what refers to them, too.
		if got, at, e := early.Read(text, flag, table); e != api.OK || at != 0 || !same(got, x) {
			t.Fatalf("%s:\n%.200q, %v: %v at %d, %s", shown(x), text, flag, e, at, shown(got))
		}
	}
}

// withoutGroups is the same tree, but for the Groups of its NodeBacks.
func withoutGroups(x api.Tree) api.Tree {
	x = clone(x)
	for at := range x.Nodes {
		if n := &x.Nodes[at]; n.Kind == api.NodeBack {
			n.Group = 0
		}
	}
	return x
}

// refer is a NodeBack, and by which name or number it refers.
type refer struct {
	at, number int
	name       string
}

// refers are the names and numbers that a tree's NodeBacks have.
func refers(x api.Tree) []refer {
	var l []refer
	for at, n := range x.Nodes {
		if n.Kind != api.NodeBack {
			continue
		}
		if name := x.Names[n.Group-1]; name != "" {
			l = append(l, refer{at: at, name: name})
		} else {
			l = append(l, refer{at: at, number: n.Group})
		}
	}
	return l
}

// referred are those that were read.
func referred(raw parse.Raw) []refer {
	var l []refer
	for _, r := range raw.Refs {
		l = append(l, refer{at: r.Node, number: r.Num, name: r.Name})
	}
	return l
}
