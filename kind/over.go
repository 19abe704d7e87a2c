package kind

import (
	"tinder/api"
	"tinder/tree"
)

// maker makes what becomes of a pattern's nodes, each part behind its kids.
type maker struct {
	pattern
	kinds []func(n api.Node) int
	made  []api.Node
	none  bool // a part becomes nothing, or all is too great
}

// over is what becomes of the last node, and true; false, if there is none, or if that is too great, or too deep.
func (p pattern) over() (api.Tree, bool) {
	m := &maker{pattern: p}
	m.kinds = m.table()
	m.become(p.last())
	made := api.Tree{Nodes: m.made}
	if m.none || !tree.Right(made) {
		return api.Tree{}, false
	}
	return made, true
}

// table is what makes that which becomes of a node, by its kind: all those that a written tree may have. Each tells the place of what it made.
func (m *maker) table() []func(n api.Node) int {
	return []func(n api.Node) int{
		api.NodeEmpty:  m.same,
		api.NodeSet:    m.same,
		api.NodeSeq:    m.same,
		api.NodeAlt:    m.same,
		api.NodeGroup:  m.only,
		api.NodeAtomic: m.atomic,
		api.NodeRepeat: m.repeat,
		api.NodeBack:   m.back,
		api.NodeSpot:   m.same,
		api.NodeAhead:  m.ahead,
		api.NodeBehind: m.behind,
	}
}

// become makes what becomes of the node at a place.
func (m *maker) become(at int) int {
	// All that is made stays: once it is too much, no more need be made.
	m.none = m.none || len(m.made) > api.MaxNodes
	if m.none {
		return 0
	}
	n := m.Nodes[at]
	return m.kinds[n.Kind](n)
}

// put puts a node behind all that is made, above kids that were made last, in memory of its own.
func (m *maker) put(n api.Node, kids ...int) int {
	n.Set, n.Kids = append([]api.Range(nil), n.Set...), kids
	m.made = append(m.made, n)
	return len(m.made) - 1
}

func (m *maker) of(kind api.NodeKind, kids ...int) int {
	return m.put(api.Node{Kind: kind}, kids...)
}

func (m *maker) empty() int {
	return m.of(api.NodeEmpty)
}

// dead is a dead set: a probe, and no way on.
func (m *maker) dead() int {
	return m.of(api.NodeSet)
}

// probe is one probe more, and the way on.
func (m *maker) probe() int {
	return m.of(api.NodeAlt, m.dead(), m.empty())
}

// same is the same node above what becomes of its kids.
func (m *maker) same(n api.Node) int {
	var kids []int
	for _, kid := range n.Kids {
		kids = append(kids, m.become(kid))
	}
	return m.put(n, kids...)
}

// only is what becomes of the one kid.
func (m *maker) only(n api.Node) int {
	return m.become(n.Kids[0])
}

func (m *maker) atomic(n api.Node) int {
	return m.of(api.NodeSeq, m.only(n), m.probe())
}

func (m *maker) repeat(n api.Node) int {
	if n.Mode != api.ModeOwn {
		return m.same(n)
	}
	n.Mode = api.ModeGreedy
	return m.of(api.NodeSeq, m.same(n), m.probe())
}

// back is a probe, and as many code points as there may be: what its group has is not known here.
func (m *maker) back(api.Node) int {
	return m.of(api.NodeSeq, m.probe(), m.anything())
}

// anything is as many code points as there are, whichever these are.
func (m *maker) anything() int {
	point := m.put(api.Node{Kind: api.NodeSet, Set: []api.Range{{Lo: 0, Hi: api.MaxPoint}}})
	return m.put(api.Node{Kind: api.NodeRepeat, Min: 0, Max: endless, Mode: api.ModeGreedy}, point)
}

// ahead is all that is in the look, but that none of its ways goes on; and the one way that does.
func (m *maker) ahead(n api.Node) int {
	return m.of(api.NodeAlt, m.of(api.NodeSeq, m.only(n), m.dead()), m.empty())
}

// behind is as many probes as the look may ask at most: what is in it is asked of what stands ahead, where a plain tree can not go.
func (m *maker) behind(n api.Node) int {
	inner, ok := m.load(n.Kids[0], true)
	if !ok {
		m.none = true
	}
	var kids []int
	for range inner.probes + inner.ways {
		kids = append(kids, m.dead())
	}
	return m.of(api.NodeAlt, append(kids, m.empty())...)
}
