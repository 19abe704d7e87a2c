package early_test

import (
	"slices"
	"strings"
	"testing"

	"tinder/api"
	"tinder/parse"
	"tinder/tree"
)

// some is a raw pattern that has two groups, one of them with a name: a set, the first group, two that refer, the second group, one that refers, a sequence.
func some(t testing.TB) parse.Raw {
	t.Helper()
	return raw(t, `(a)\1(?<n>\2)\k<n>`)
}

// TestSome: P10.1, what the following tests bend is sound.
func TestSome(t *testing.T) {
	want := parse.Raw{
		Tree:   api.Tree{Nodes: []api.Node{set('a', 'a'), group(1, 0), back, back, group(2, 3), back, above(api.NodeSeq, 1, 2, 4, 5)}, Names: []string{"", "n"}},
		Refs:   []parse.Ref{{Node: 2, Num: 1, At: 3}, {Node: 3, Num: 2, At: 10}, {Node: 5, At: 13, Name: "n"}},
		Places: []int{0, 5},
	}
	resolved := cloneTree(want.Tree)
	resolved.Nodes[2], resolved.Nodes[3], resolved.Nodes[5] = backTo(1), backTo(2), backTo(2)
	resolves(t, want, resolved)
	resolves(t, some(t), resolved)
}

// bent fails unless some raw pattern is not sound, once bent, whatever else is wrong with it.
func bent(t *testing.T, bends ...func(r *parse.Raw)) {
	t.Helper()
	for i, bend := range bends {
		for _, other := range []func(r *parse.Raw){
			func(r *parse.Raw) {},
			func(r *parse.Raw) { r.Tree.Names[0] = "n" },
			func(r *parse.Raw) { r.Tree.Names[1] = "1" },
			func(r *parse.Raw) { r.Tree.Names[1], r.Places[0], r.Places[1] = "m", 70, 80 },
			func(r *parse.Raw) { r.Refs[0].Num, r.Refs[0].At, r.Refs[2].At = 9, 90, 91 },
		} {
			r := some(t)
			other(&r)
			bend(&r)
			if modelSound(r) {
				t.Errorf("%d: sound: %s", i, shown(r))
			}
			refuses(t, r, api.ErrShape, 0)
		}
	}
}

// TestRefsSound: P10.1, the Refs are just those of what refers, in order.
func TestRefsSound(t *testing.T) {
	bent(t,
		func(r *parse.Raw) { r.Refs = nil },
		func(r *parse.Raw) { r.Refs = r.Refs[:1] },
		func(r *parse.Raw) { r.Refs = r.Refs[:2] },
		func(r *parse.Raw) { r.Refs = r.Refs[1:] },
		func(r *parse.Raw) { r.Refs = slices.Delete(r.Refs, 1, 2) },
		func(r *parse.Raw) { r.Refs[0], r.Refs[1] = r.Refs[1], r.Refs[0] },
		func(r *parse.Raw) { r.Refs[1], r.Refs[2] = r.Refs[2], r.Refs[1] },
		func(r *parse.Raw) { slices.Reverse(r.Refs) },
		func(r *parse.Raw) { r.Refs = append(r.Refs, r.Refs...) },
		func(r *parse.Raw) { r.Refs[1].Node = r.Refs[0].Node },
		func(r *parse.Raw) { r.Refs[2].Node = r.Refs[1].Node },
	)
	for i := range 3 {
		for _, node := range []int{least, -3, -1, 0, 1, 2, 3, 4, 5, 6, 7, 8, 1 << 31, 1<<32 + 2, most} {
			if node == []int{2, 3, 5}[i] {
				continue
			}
			bent(t,
				func(r *parse.Raw) { r.Refs[i].Node = node },
				func(r *parse.Raw) { r.Refs = append(r.Refs, parse.Ref{Node: node, Num: 1}) },
				func(r *parse.Raw) { r.Refs = slices.Insert(r.Refs, i, parse.Ref{Node: node, Num: 1}) },
				func(r *parse.Raw) { r.Refs = slices.Insert(r.Refs, i, r.Refs[i]) },
			)
		}
	}
	// Neither may anything else be told to refer, nor what refers be left out, however many there are.
	refuses(t, parse.Raw{Tree: api.Tree{Nodes: []api.Node{back}}}, api.ErrShape, 0)
	refuses(t, parse.Raw{Tree: api.Tree{Nodes: []api.Node{empty}}, Refs: []parse.Ref{{Num: 1}}}, api.ErrShape, 0)
	refuses(t, parse.Raw{Refs: []parse.Ref{{Num: 1}}}, api.ErrShape, 0)
	for at := range 7 {
		for _, kind := range []api.NodeKind{0, api.NodeEmpty, api.NodeSet, api.NodeBack, api.NodeSpot, api.NodeFresh + 1, 255} {
			bent(t, func(r *parse.Raw) {
				n := &r.Tree.Nodes[at]
				if n.Kind == kind {
					r.Refs[0].Node = most
				}
				n.Kind = kind
			})
		}
	}
}

// TestRefSound: P10.1, each Ref has a number or a name, not both; which ones, and where it stands, is not asked yet.
func TestRefSound(t *testing.T) {
	for i := range 3 {
		for _, num := range []int{least, -1 << 32, -2, -1} {
			bent(t,
				func(r *parse.Raw) { r.Refs[i].Num, r.Refs[i].Name = num, "" },
				func(r *parse.Raw) { r.Refs[i].Num, r.Refs[i].Name = num, "n" },
			)
		}
		for _, name := range []string{"n", "m", "1", " ", "\x00", "\xFF", name40 + "a"} {
			bent(t,
				func(r *parse.Raw) { r.Refs[i].Num, r.Refs[i].Name = 1, name },
				func(r *parse.Raw) { r.Refs[i].Num, r.Refs[i].Name = most, name },
			)
			r := some(t)
			r.Refs[i].Num, r.Refs[i].Name = 0, name
			if name != "n" {
				refuses(t, r, api.ErrName, []int{3, 10, 13}[i])
			} else if x, _, e := alike(t, r); e != api.OK || x.Nodes[r.Refs[i].Node].Group != 2 {
				t.Error(e, shown(x))
			}
		}
		bent(t, func(r *parse.Raw) { r.Refs[i].Num, r.Refs[i].Name = 0, "" })
		for _, num := range []int{3, 4, 20, 21, 1 << 30, 1 << 32, 1<<32 + 1, most} {
			for _, at := range []int{least, -1, 0, 7, most} {
				r := some(t)
				r.Refs[i] = parse.Ref{Node: r.Refs[i].Node, Num: num, At: at}
				refuses(t, r, api.ErrGroup, at)
				r.Refs[i].Num, r.Refs[i].Name = 0, "m"
				refuses(t, r, api.ErrName, at)
			}
		}
		for num := 1; num <= 2; num++ {
			r := some(t)
			r.Refs[i] = parse.Ref{Node: r.Refs[i].Node, Num: num, At: -1}
			if x, _, e := alike(t, r); e != api.OK || x.Nodes[r.Refs[i].Node].Group != num {
				t.Error(e, shown(x))
			}
		}
	}
}

// TestBackSound: P10.1, what refers has nothing but its kind.
func TestBackSound(t *testing.T) {
	for _, at := range []int{2, 3, 5} {
		for _, give := range []func(n *api.Node){
			func(n *api.Node) { n.Set = of('a', 'a') }, func(n *api.Node) { n.Set = of(5, 3) }, func(n *api.Node) { n.Kids = []int{0} }, func(n *api.Node) { n.Kids = []int{at - 1} }, func(n *api.Node) { n.Kids = []int{at} },
			func(n *api.Node) { n.Group = 1 }, func(n *api.Node) { n.Group = 2 }, func(n *api.Node) { n.Group = -1 }, func(n *api.Node) { n.Min = 1 }, func(n *api.Node) { n.Min = -1 }, func(n *api.Node) { n.Max = 1 }, func(n *api.Node) { n.Max = -1 },
			func(n *api.Node) { n.Mode = api.ModeGreedy }, func(n *api.Node) { n.Mode = 255 }, func(n *api.Node) { n.Spot = api.SpotStart }, func(n *api.Node) { n.Spot = 255 }, func(n *api.Node) { n.Not = true },
		} {
			bent(t, func(r *parse.Raw) { give(&r.Tree.Nodes[at]) })
		}
		r := some(t)
		r.Tree.Nodes[at].Set, r.Tree.Nodes[at].Kids = []api.Range{}, []int{}
		if _, _, e := alike(t, r); e != api.OK {
			t.Error(at, e)
		}
	}
	// One that has a kid, which stands as it should in a tree that is in order.
	refuses(t, parse.Raw{Tree: api.Tree{Nodes: []api.Node{empty, {Kind: api.NodeBack, Kids: []int{0}}}}, Refs: []parse.Ref{{Node: 1, Num: 1}}}, api.ErrShape, 0)
	refuses(t, parse.Raw{Tree: api.Tree{Nodes: []api.Node{empty, {Kind: api.NodeBack, Kids: []int{0}}, group(1, 1)}, Names: []string{""}}, Places: []int{0}, Refs: []parse.Ref{{Node: 1, Num: 1}}}, api.ErrShape, 0)
}

// TestPlacesSound: P10.1, there are as many Places as names; which ones, is not asked.
func TestPlacesSound(t *testing.T) {
	bent(t,
		func(r *parse.Raw) { r.Places = nil },
		func(r *parse.Raw) { r.Places = r.Places[:1] },
		func(r *parse.Raw) { r.Places = append(r.Places, 6) },
		func(r *parse.Raw) { r.Tree.Names = r.Tree.Names[:1] },
		func(r *parse.Raw) { r.Tree.Names = nil },
		func(r *parse.Raw) { r.Tree.Names = append(r.Tree.Names, "") },
		func(r *parse.Raw) { r.Tree.Names = append(r.Tree.Names, "x") },
		// As many of both, but not as many as there are groups.
		func(r *parse.Raw) { r.Places, r.Tree.Names = nil, nil },
		func(r *parse.Raw) { r.Places, r.Tree.Names = r.Places[:1], r.Tree.Names[:1] },
		func(r *parse.Raw) { r.Places, r.Tree.Names = append(r.Places, 9), append(r.Tree.Names, "") },
	)
	for _, a := range []int{least, -1, 0, 5, most} {
		for _, b := range []int{least, -1, 0, 5, most} {
			r := some(t)
			r.Places = []int{a, b}
			if _, at, e := alike(t, r); e != api.OK || at != 0 {
				t.Error(a, b, at, e)
			}
			r.Tree.Names[0] = "1"
			refuses(t, r, api.ErrName, a)
			r.Tree.Names[0] = "n"
			refuses(t, r, api.ErrName, b)
			r.Tree.Names = []string{"", "é"}
			refuses(t, r, api.ErrName, b)
		}
	}
}

// TestTreeSound: P10.1, the tree is written, but for what refers and the names.
func TestTreeSound(t *testing.T) {
	bent(t,
		func(r *parse.Raw) { r.Tree.Nodes = nil },
		func(r *parse.Raw) { r.Tree.Nodes = r.Tree.Nodes[:6] },
		func(r *parse.Raw) { r.Tree.Nodes = append(r.Tree.Nodes, empty) },
		func(r *parse.Raw) { r.Tree.Nodes[1].Group = 2 },
		func(r *parse.Raw) { r.Tree.Nodes[1].Group = 0 },
		func(r *parse.Raw) { r.Tree.Nodes[1].Group, r.Tree.Nodes[4].Group = 2, 1 },
		func(r *parse.Raw) { r.Tree.Nodes[4].Group = 3 },
		func(r *parse.Raw) { r.Tree.Nodes[4].Kids = nil },
		func(r *parse.Raw) { r.Tree.Nodes[4].Kids = []int{4} },
		func(r *parse.Raw) { r.Tree.Nodes[6].Kids = []int{1, 2, 4} },
		func(r *parse.Raw) { r.Tree.Nodes[6].Kids = []int{0, 2, 4, 5} },
		func(r *parse.Raw) { r.Tree.Nodes[6].Kids = []int{least, 2, 4, most} },
		func(r *parse.Raw) { r.Tree.Nodes[0].Set = of(7, 5) },
		func(r *parse.Raw) { r.Tree.Nodes[0].Set = of(1, 2, 3, 4) },
		func(r *parse.Raw) { r.Tree.Nodes[0].Set = of(0, top+1) },
		func(r *parse.Raw) { r.Tree.Nodes[0].Not = true },
		func(r *parse.Raw) { r.Tree.Nodes[0].Group = 1 },
		func(r *parse.Raw) { r.Tree.Nodes[4] = above(api.NodeFresh, 3) },
		func(r *parse.Raw) { r.Tree.Nodes[4] = above(api.NodeAtomic, 3) },
		func(r *parse.Raw) {
			r.Tree.Nodes[4] = api.Node{Kind: api.NodeTry, Kids: []int{3}, Mode: api.ModeGreedy}
		},
		func(r *parse.Raw) {
			r.Tree.Nodes[4] = api.Node{Kind: api.NodeRepeat, Kids: []int{3}, Min: 2, Max: 1, Mode: api.ModeLazy}
		},
	)
	for _, kind := range []api.NodeKind{api.NodeTry, api.NodeFresh} {
		for _, mode := range []api.ModeKind{0, api.ModeGreedy} {
			refuses(t, parse.Raw{Tree: api.Tree{Nodes: []api.Node{empty, {Kind: kind, Mode: mode, Kids: []int{0}}}}}, api.ErrShape, 0)
		}
	}
	refuses(t, parse.Raw{}, api.ErrShape, 0)
	resolves(t, parse.Raw{Tree: api.Tree{Nodes: []api.Node{empty}}}, api.Tree{Nodes: []api.Node{empty}})
}

// TestWrongNames: P10.1, names that are none, of the first group that has one.
func TestWrongNames(t *testing.T) {
	for _, name := range []string{"0", "1a", "-", "a-", "é", "aé", " ", " a", "a ", "a\x00", "\x00", "\xFF", "a\xFF", name40 + "a", "n>", "<n", "a\n", "ｎ", strings.Repeat("a", 41)} {
		for i := range 2 {
			r := some(t)
			r.Tree.Names[i] = name
			refuses(t, r, api.ErrName, r.Places[i])
			// A reference to what is no name finds none, nor one to another name.
			r.Refs[0].Num, r.Refs[0].Name = 0, name
			refuses(t, r, api.ErrName, r.Places[i])
		}
		r := some(t)
		r.Tree.Names[0], r.Tree.Names[1] = name, name
		refuses(t, r, api.ErrName, r.Places[0])
		r.Tree.Names[0] = "n"
		refuses(t, r, api.ErrName, r.Places[1])
	}
	for c := range 256 {
		sign := string([]byte{byte(c)})
		for _, name := range []string{sign, sign + "a", "a" + sign, "a" + sign + "a", name40[:39] + sign} {
			r := some(t)
			r.Tree.Names[0] = name
			// The name of the other group is told at that one.
			if name == "n" {
				refuses(t, r, api.ErrName, 5)
				continue
			}
			x, at, e := alike(t, r)
			if is := namePattern.MatchString(name); is != (e == api.OK) || at != 0 || is && x.Names[0] != name {
				t.Errorf("%q: %v at %d, %s", name, e, at, shown(x))
			}
		}
	}
}

// TestRightNames: P10.1, names of any length up to 40, told as they are, and found by what refers to them.
func TestRightNames(t *testing.T) {
	for n := 1; n <= 41; n++ {
		for _, name := range []string{(name40 + "a")[:n], strings.Repeat("$", n), "_" + strings.Repeat("9", n-1)} {
			r := some(t)
			r.Tree.Names[0], r.Refs[1] = name, parse.Ref{Node: 3, Name: name, At: 10}
			if n > 40 {
				refuses(t, r, api.ErrName, 0)
				continue
			}
			x, _, e := alike(t, r)
			if e != api.OK || x.Names[0] != name || x.Nodes[3].Group != 1 || !tree.Right(x) {
				t.Errorf("%q: %v, %s", name, e, shown(x))
			}
		}
	}
}
