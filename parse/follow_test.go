package parse_test

import (
	"math/rand"
	"reflect"
	"strings"
	"testing"

	"tinder/api"
	"tinder/parse"
	"tinder/tree"
)

// someRead are patterns that are read, with what was read.
func someRead(t *testing.T, r *rand.Rand, flags api.Flags) (string, parse.Raw) {
	t.Helper()
	for {
		text := somePattern(r)
		if raw, _, e := parse.Read(text, flags, tables()); e == api.OK {
			return text, raw
		}
	}
}

// TestInOrder: P9.2, what is read is in order, its nodes are of their kinds, but for what refers to groups: with nothing in place of that it is written.
func TestInOrder(t *testing.T) {
	r := rand.New(rand.NewSource(92))
	for range 5000 {
		text, raw := someRead(t, r, allFlags()[r.Intn(16)])
		backs := 0
		for at, n := range raw.Tree.Nodes {
			if n.Kind != api.NodeBack {
				continue
			}
			if len(n.Set) > 0 || len(n.Kids) > 0 || !reflect.DeepEqual(bareNode(n), api.Node{Kind: api.NodeBack}) {
				t.Fatalf("%q: %+v", text, n)
			}
			if backs >= len(raw.Refs) || raw.Refs[backs].Node != at {
				t.Fatalf("%q: %+v", text, raw.Refs)
			}
			backs++
			raw.Tree.Nodes[at].Kind = api.NodeEmpty
		}
		if backs != len(raw.Refs) || len(raw.Places) != len(raw.Tree.Names) {
			t.Fatalf("%q: %+v", text, raw)
		}
		clear(raw.Tree.Names)
		if !tree.Right(raw.Tree) {
			t.Fatalf("%q: %s", text, shown(raw))
		}
		for i, ref := range raw.Refs {
			if text := string([]rune(text)[ref.At:]); !strings.HasPrefix(text, `\`) || (ref.Num == 0) == (ref.Name == "") || i > 0 && ref.At <= raw.Refs[i-1].At {
				t.Fatalf("%q: %+v", text, raw.Refs)
			}
		}
		for i, place := range raw.Places {
			if []rune(text)[place] != '(' || i > 0 && place <= raw.Places[i-1] {
				t.Fatalf("%q: %+v", text, raw.Places)
			}
		}
	}
}

func bareNode(n api.Node) api.Node {
	n.Set, n.Kids = listed(n.Set), listed(n.Kids)
	return n
}

// moved is what is read where a pattern stands behind so many code points, nodes, and groups.
func moved(raw parse.Raw, points, nodes, groups int) parse.Raw {
	out := parse.Raw{Tree: api.Tree{Names: raw.Tree.Names}}
	for _, n := range raw.Tree.Nodes {
		if n.Kind == api.NodeGroup {
			n.Group += groups
		}
		kids := n.Kids
		n.Kids = nil
		for _, kid := range kids {
			n.Kids = append(n.Kids, kid+nodes)
		}
		out.Tree.Nodes = append(out.Tree.Nodes, n)
	}
	for _, ref := range raw.Refs {
		ref.Node, ref.At = ref.Node+nodes, ref.At+points
		out.Refs = append(out.Refs, ref)
	}
	for _, place := range raw.Places {
		out.Places = append(out.Places, place+points)
	}
	return out
}

// TestPut: P9.2, a pattern put in (?: and ) is the same tree; what refers and groups stand three signs further on.
func TestPut(t *testing.T) {
	r := rand.New(rand.NewSource(93))
	for range 5000 {
		flags := allFlags()[r.Intn(16)]
		text, raw := someRead(t, r, flags)
		put, at, e := parse.Read("(?:"+text+")", flags, tables())
		if e != api.OK || !reflect.DeepEqual(bare(put), bare(moved(raw, 3, 0, 0))) {
			t.Fatalf("%q: %v at %d: %s", text, e, at, shown(put))
		}
	}
}

// TestBetween: P9.2, two patterns with | between are an alternative of both, if neither is one.
func TestBetween(t *testing.T) {
	r := rand.New(rand.NewSource(94))
	both := 0
	for range 5000 {
		flags := allFlags()[r.Intn(16)]
		text, a := someRead(t, r, flags)
		other, b := someRead(t, r, flags)
		n, m := len(a.Tree.Nodes), len(b.Tree.Nodes)
		if a.Tree.Nodes[n-1].Kind == api.NodeAlt || b.Tree.Nodes[m-1].Kind == api.NodeAlt || len(a.Places)+len(b.Places) > 20 {
			continue
		}
		both++
		second := moved(b, len([]rune(text))+1, n, len(a.Places))
		want := parse.Raw{Tree: api.Tree{Nodes: append(a.Tree.Nodes, second.Tree.Nodes...), Names: append(a.Tree.Names, second.Tree.Names...)}, Refs: append(a.Refs, second.Refs...), Places: append(a.Places, second.Places...)}
		want.Tree.Nodes = append(want.Tree.Nodes, api.Node{Kind: api.NodeAlt, Kids: []int{n - 1, n + m - 1}})
		got, at, e := parse.Read(text+"|"+other, flags, tables())
		if e != api.OK || !reflect.DeepEqual(bare(got), bare(want)) {
			t.Fatalf("%q, %q: %v at %d: %s; want %s", text, other, e, at, shown(got), shown(want))
		}
	}
	if both < 1500 {
		t.Error(both)
	}
}
