package kind_test

import (
	"math/rand"
	"testing"

	"tinder/api"
	"tinder/kind"
	"tinder/tree"
)

// counter goes all ways through a tree, each of which goes on, and counts what is probed.
type counter struct {
	tree   api.Tree
	probes int
	ways   int
}

// tooMany ends a count.
type tooMany struct{}

func (c *counter) probe() {
	if c.probes++; c.probes > 200 {
		panic(tooMany{})
	}
}

func (c *counter) way() {
	if c.ways++; c.ways > 200 {
		panic(tooMany{})
	}
}

// goes through a node, towards the left or not; on is called for each way.
func (c *counter) goes(at int, left bool, on func()) {
	n := c.tree.Nodes[at]
	switch n.Kind {
	case api.NodeEmpty:
		on()
	case api.NodeSet, api.NodeSpot, api.NodeBack:
		c.probe()
		on()
	case api.NodeSeq:
		c.row(n.Kids, left, on)
	case api.NodeAlt:
		for _, kid := range n.Kids {
			c.goes(kid, left, on)
		}
	case api.NodeGroup:
		c.goes(n.Kids[0], left, on)
	case api.NodeAtomic:
		c.ends(n.Kids[0], left, on)
	case api.NodeAhead:
		c.ends(n.Kids[0], false, on)
	case api.NodeBehind:
		c.ends(n.Kids[0], true, on)
	case api.NodeRepeat:
		if n.Mode == api.ModeOwn {
			c.rounds(n, 0, left, func() {})
			c.probe()
			on()
			return
		}
		c.rounds(n, 0, left, on)
	}
}

// row goes through kids, one behind the other.
func (c *counter) row(kids []int, left bool, on func()) {
	switch {
	case len(kids) == 0:
		on()
	case left:
		last := len(kids) - 1
		c.goes(kids[last], left, func() { c.row(kids[:last], left, on) })
	default:
		c.goes(kids[0], left, func() { c.row(kids[1:], left, on) })
	}
}

// ends goes through what goes on but once, behind a probe.
func (c *counter) ends(at int, left bool, on func()) {
	c.goes(at, left, func() {})
	c.probe()
	on()
}

// rounds goes through a repeat: rounds beyond those that must be end at a probe each, or are left out.
func (c *counter) rounds(n api.Node, round int, left bool, on func()) {
	switch {
	case round < n.Min:
		c.goes(n.Kids[0], left, func() { c.rounds(n, round+1, left, on) })
	case round < n.Max:
		c.goes(n.Kids[0], left, func() {
			c.probe()
			c.rounds(n, round+1, left, on)
		})
		on()
	default:
		on()
	}
}

// counts are how many probes and ways a node has; false, if they are too many. What a repeat that never goes back has ahead of its end is counted, too.
func counts(x api.Tree, at int, left bool) (c counter, ok bool) {
	defer func() {
		if e := recover(); e != nil {
			_, is := e.(tooMany)
			if !is {
				panic(e)
			}
			c, ok = counter{}, false
		}
	}()
	c.tree = x
	if n := x.Nodes[at]; n.Kind == api.NodeRepeat && n.Mode == api.ModeOwn {
		c.rounds(n, 0, left, c.way)
		c.probes, c.ways = 0, 0
	}
	c.goes(at, left, c.way)
	return c, true
}

// counted is the load of a node, each way counted one by one; false, if it has none.
func counted(x api.Tree, at int, left bool) (probes, ways int, ok bool) {
	n := x.Nodes[at]
	if n.Kind == api.NodeRepeat && n.Max == -1 {
		return 0, 0, false
	}
	inner := n.Kind == api.NodeBehind || left && n.Kind != api.NodeAhead
	for _, kid := range n.Kids {
		if _, _, ok := counted(x, kid, inner); !ok {
			return 0, 0, false
		}
	}
	c, ok := counts(x, at, left)
	return c.probes, c.ways, ok
}

// alikeCounted fails unless a tree's load is what is counted.
func alikeCounted(t *testing.T, x api.Tree) bool {
	t.Helper()
	probes, ways, ok := kind.Load(x)
	wantProbes, wantWays, want := counted(x, len(x.Nodes)-1, false)
	if probes != wantProbes || ways != wantWays || ok != want {
		t.Fatalf("%s: %d, %d, %v; want %d, %d, %v", shown(x), probes, ways, ok, wantProbes, wantWays, want)
	}
	return ok
}

// TestCounted: P12.1, a load is how many probes and ways there are, if each probe goes on, and no more than 200 of either.
func TestCounted(t *testing.T) {
	t.Parallel()
	for nodes := 1; nodes <= 5; nodes++ {
		for _, x := range written().trees(nodes) {
			if x = numbered(x); tree.Right(x) {
				alikeCounted(t, x)
			}
		}
	}
	r := rand.New(rand.NewSource(124))
	loaded := 0
	for range 10000 {
		loaded += count(alikeCounted(t, someTree(r, 1+r.Intn(6))))
	}
	if loaded < 2000 {
		t.Error(loaded)
	}
}
