package early_test

import (
	"strings"
	"testing"

	"tinder/api"
	"tinder/early"
	"tinder/parse"
	"tinder/tree"
)

// sequence is a raw pattern of so many nodes, the last of which is above all others: each of these refers to one group by a number or by a name, but for the group and what is in it.
func sequence(nodes int, name string) parse.Raw {
	r := parse.Raw{Tree: api.Tree{Names: []string{name}}, Places: []int{5}}
	r.Tree.Nodes = append(r.Tree.Nodes, empty, group(1, 0))
	kids := []int{1}
	for at := 2; at < nodes-1; at++ {
		r.Tree.Nodes = append(r.Tree.Nodes, back)
		r.Refs = append(r.Refs, parse.Ref{Node: at, Num: 1, At: at})
		kids = append(kids, at)
	}
	for i := range r.Refs {
		if name != "" && i%2 > 0 {
			r.Refs[i].Num, r.Refs[i].Name = 0, name
		}
	}
	r.Tree.Nodes = append(r.Tree.Nodes, above(api.NodeSeq, kids...))
	return r
}

// TestMostNodes: P10.1, trees of 4000 nodes, of one less and of one more.
func TestMostNodes(t *testing.T) {
	for n := 3999; n <= 4001; n++ {
		for _, name := range []string{"", "n"} {
			r := sequence(n, name)
			if n > 4000 {
				refuses(t, r, api.ErrShape, 0)
				continue
			}
			x, at, e := alike(t, r)
			if e != api.OK || at != 0 || len(x.Nodes) != n || !tree.Right(x) {
				t.Error(n, at, e)
			}
			last := len(r.Refs) - 1
			r.Refs[last].Num, r.Refs[last].Name = 2, ""
			refuses(t, r, api.ErrGroup, n-2)
			r.Refs[last].Num, r.Refs[last].Name = 0, "m"
			refuses(t, r, api.ErrName, n-2)
			r.Refs[0].Num, r.Refs[0].Name = 2, ""
			refuses(t, r, api.ErrGroup, 2)
		}
	}
}

// TestDeepest: P10.1, P10.3, trees 60 deep, and one deeper.
func TestDeepest(t *testing.T) {
	for n := 58; n <= 61; n++ {
		r := parse.Raw{Tree: api.Tree{Nodes: []api.Node{empty}}}
		for at := range n - 1 {
			r.Tree.Nodes = append(r.Tree.Nodes, above(api.NodeAtomic, at))
		}
		text := strings.Repeat("(?>", n-1) + strings.Repeat(")", n-1)
		if n > 60 {
			refuses(t, r, api.ErrShape, 0)
			failsAt(t, text, api.Flags{}, api.ErrDepth, 0)
			continue
		}
		resolves(t, r, r.Tree)
		reads(t, text, nil, r.Tree.Nodes...)
		// What refers is as deep as any other.
		r.Tree.Nodes[0] = back
		r.Refs = []parse.Ref{{Num: 1, At: n}}
		refuses(t, r, api.ErrGroup, n)
	}
}

// groups are so many of them, one in the other, each with some name, all of which the innermost refers to.
func groups(many int, name func(i int) string) parse.Raw {
	var r parse.Raw
	kids := []int{}
	for at := range many {
		r.Tree.Nodes = append(r.Tree.Nodes, back)
		r.Refs = append(r.Refs, parse.Ref{Node: at, Num: at + 1, At: 100 + at})
		kids = append(kids, at)
	}
	r.Tree.Nodes = append(r.Tree.Nodes, above(api.NodeAlt, kids...))
	for i := range many {
		r.Tree.Nodes = append(r.Tree.Nodes, group(many-i, len(r.Tree.Nodes)-1))
		r.Tree.Names = append(r.Tree.Names, name(i))
		r.Places = append(r.Places, 200+i)
	}
	return r
}

// TestMostGroups: P10.1, 20 groups, one less and one more, with names and without.
func TestMostGroups(t *testing.T) {
	for many := 19; many <= 21; many++ {
		for _, name := range []func(i int) string{
			func(int) string { return "" },
			func(i int) string { return string(rune('a' + i)) },
			func(i int) string { return []string{"", string(rune('a' + i))}[i%2] },
		} {
			r := groups(many, name)
			if many > 20 {
				refuses(t, r, api.ErrShape, 0)
				continue
			}
			x, at, e := alike(t, r)
			if e != api.OK || at != 0 || !tree.Right(x) {
				t.Error(many, at, e)
			}
			for i := range many {
				if x.Nodes[i].Group != i+1 {
					t.Error(many, i, x.Nodes[i])
				}
				// One name of all may not be, nor may one number.
				y := clone(r)
				y.Tree.Names[i] = "é"
				refuses(t, y, api.ErrName, 200+i)
				y.Tree.Names[i] = y.Tree.Names[(i+1)%many]
				if y.Tree.Names[i] != "" {
					refuses(t, y, api.ErrName, 200+max(i, (i+1)%many))
				}
				y = clone(r)
				y.Refs[i].Num = many + 1
				refuses(t, y, api.ErrGroup, 100+i)
			}
		}
	}
}

// TestGreat: R1, R7, very great rows and texts come to an end.
func TestGreat(t *testing.T) {
	const n = 1 << 18
	row, kids := make([]api.Range, n), make([]int, n)
	for i := range n {
		row[i], kids[i] = api.Range{Lo: 3 * i, Hi: 3 * i}, i
	}
	long := strings.Repeat("a", 1<<22)
	great := sequence(n, "n")
	for i, r := range []parse.Raw{
		great, {Tree: api.Tree{Nodes: make([]api.Node, n)}}, {Tree: api.Tree{Names: make([]string, n)}, Places: kids}, {Refs: make([]parse.Ref, n)}, {Refs: great.Refs, Tree: api.Tree{Nodes: great.Tree.Nodes[:n/2]}}, {Places: kids}, groups(n, func(int) string { return "" }),
		{Tree: api.Tree{Nodes: []api.Node{{Kind: api.NodeSet, Set: row}}}}, {Tree: api.Tree{Nodes: []api.Node{{Kind: api.NodeBack, Set: row, Kids: kids}}}, Refs: []parse.Ref{{Num: 1}}}, {Tree: api.Tree{Nodes: []api.Node{empty}, Names: make([]string, n)}, Places: kids},
	} {
		if x, at, e := early.Resolve(r); e != api.ErrShape || at != 0 || len(x.Nodes) > 0 {
			t.Error(i, at, e)
		}
	}
	r := some(t)
	r.Tree.Names[0] = long
	refusesGreat(t, r, api.ErrName, 0)
	r = some(t)
	r.Refs[1].Num, r.Refs[1].Name = 0, long
	refusesGreat(t, r, api.ErrName, 10)
	for _, text := range []string{long, strings.Repeat("(?<n>)", n), strings.Repeat(`\9`, n), strings.Repeat("\xFF", n)} {
		alikeRead(t, text, api.Flags{Fold: true}, tables())
	}
	for _, piece := range []string{"(", `\1`, `()\k<n>`, "(?<n>", "(?<n>)", `(?<n>)\k<n>`, "|", `(?:\2)`} {
		for _, many := range []int{2000 / len(piece), 2000/len(piece) + 1} {
			alikeRead(t, strings.Repeat(piece, many), api.Flags{}, tables())
		}
	}
}

// refusesGreat is refuses of what is too great to be shown.
func refusesGreat(t *testing.T, r parse.Raw, e api.Errno, at int) {
	t.Helper()
	if x, gotAt, got := early.Resolve(r); got != e || gotAt != at || len(x.Nodes) > 0 {
		t.Errorf("%v at %d; want %v at %d", got, gotAt, e, at)
	}
}

// TestGreatSets: R7, 4000 nodes with the greatest sets, all of which share one row.
func TestGreatSets(t *testing.T) {
	var row []api.Range
	for i := range 2000 {
		row = append(row, api.Range{Lo: 3 * i, Hi: 3*i + 1})
	}
	for _, more := range []bool{false, true} {
		if more {
			row = append(row, api.Range{Lo: top, Hi: top})
		}
		r := sequence(500, "n")
		for at := 2; at < 499; at++ {
			r.Tree.Nodes[at] = api.Node{Kind: api.NodeSet, Set: row}
		}
		r.Refs = nil
		x, at, e := early.Resolve(r)
		switch {
		case more:
			if e != api.ErrShape || at != 0 || len(x.Nodes) > 0 {
				t.Error(at, e)
			}
		case e != api.OK || at != 0 || !tree.Right(x):
			t.Error(at, e)
		}
	}
}
