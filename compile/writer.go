package compile

import (
	"slices"

	"tinder/api"
	"tinder/tree"
)

// writer writes what becomes of a spread tree's nodes.
type writer struct {
	ops
	nodes []api.Node
	kinds []func(w *writer, n api.Node)
	left  bool // it is written towards the left
	marks int  // how many are used
}

// written is a writer who has written all of a spread tree, and the end. Sets are the tree's own.
func written(t api.Tree) *writer {
	w := &writer{nodes: t.Nodes, kinds: kinds()}
	w.write(len(t.Nodes) - 1)
	w.put(api.Op{Kind: api.OpEnd})
	return w
}

// kinds are what writes a node, by its kind.
func kinds() []func(w *writer, n api.Node) {
	return []func(w *writer, n api.Node){
		api.NodeEmpty:  (*writer).empty,
		api.NodeSet:    (*writer).set,
		api.NodeSeq:    (*writer).seq,
		api.NodeAlt:    (*writer).alt,
		api.NodeGroup:  (*writer).group,
		api.NodeAtomic: (*writer).atomic,
		api.NodeRepeat: (*writer).repeat,
		api.NodeBack:   (*writer).back,
		api.NodeSpot:   (*writer).spot,
		api.NodeAhead:  (*writer).look,
		api.NodeBehind: (*writer).look,
		api.NodeTry:    (*writer).try,
		api.NodeFresh:  (*writer).fresh,
	}
}

// write writes what becomes of the node at a place.
func (w *writer) write(at int) {
	n := w.nodes[at]
	w.kinds[n.Kind](w, n)
}

func (w *writer) empty(api.Node) {}

func (w *writer) set(n api.Node) {
	w.put(api.Op{Kind: api.OpSet, Set: n.Set, Left: w.left})
}

func (w *writer) seq(n api.Node) {
	kids := slices.Clone(n.Kids)
	if w.left {
		slices.Reverse(kids)
	}
	for _, kid := range kids {
		w.write(kid)
	}
}

func (w *writer) alt(n api.Node) {
	last := len(n.Kids) - 1
	var jumps []int
	for _, kid := range n.Kids[:last] {
		split := w.hold()
		w.write(kid)
		jumps = append(jumps, w.hold())
		w.fork(split, n.Mode)
	}
	w.write(n.Kids[last])
	for _, jump := range jumps {
		w.fill(jump, api.Op{Kind: api.OpJump, To: w.next()})
	}
}

func (w *writer) group(n api.Node) {
	w.put(api.Op{Kind: api.OpOpen, Num: n.Group})
	w.write(n.Kids[0])
	w.put(api.Op{Kind: api.OpClose, Num: n.Group})
}

func (w *writer) repeat(n api.Node) {
	split := w.hold()
	w.round(n)
	w.put(api.Op{Kind: api.OpJump, To: split})
	w.fork(split, n.Mode)
}

func (w *writer) try(n api.Node) {
	split := w.hold()
	w.round(n)
	for _, rest := range n.Kids[1:] {
		w.write(rest)
	}
	w.fork(split, n.Mode)
}

// round writes a node's first kid as a round that must take something.
func (w *writer) round(n api.Node) {
	mark := w.marks
	w.marks++
	w.put(api.Op{Kind: api.OpMark, Num: mark})
	w.fresh(n)
	w.put(api.Op{Kind: api.OpCheck, Num: mark})
}

// fresh writes a node's first kid, whose groups are forgotten ahead of it.
func (w *writer) fresh(n api.Node) {
	kid := n.Kids[0]
	w.put(w.forget(kid)...)
	w.write(kid)
}

// forget is what forgets the groups of the node at a place, if it has any.
func (w *writer) forget(at int) []api.Op {
	from, to := tree.Groups(api.Tree{Nodes: w.covered(at)})
	if to == 0 {
		return nil
	}
	return []api.Op{{Kind: api.OpForget, Num: from, Else: to}}
}

// covered are the nodes that the one at a place covers, the first of which its first kid covers, and so on. It is asked of each repeat: so no node is copied, as tree.Of must.
func (w *writer) covered(at int) []api.Node {
	first := at
	for len(w.nodes[first].Kids) > 0 {
		first = w.nodes[first].Kids[0]
	}
	return w.nodes[first : at+1]
}

func (w *writer) atomic(n api.Node) {
	w.apart(n, api.Op{Kind: api.OpAtomic})
}

// look says for what is in it which way that is written, whatever stands above.
func (w *writer) look(n api.Node) {
	outer := w.left
	w.left = n.Kind == api.NodeBehind
	w.apart(n, api.Op{Kind: api.OpLook, Not: n.Not})
	w.left = outer
}

// apart writes a node's kid between an instruction that goes on behind it, and the end of that.
func (w *writer) apart(n api.Node, begin api.Op) {
	at := w.hold()
	w.write(n.Kids[0])
	w.put(api.Op{Kind: api.OpYes})
	begin.To = w.next()
	w.fill(at, begin)
}

func (w *writer) back(n api.Node) {
	w.put(api.Op{Kind: api.OpBack, Num: n.Group, Left: w.left})
}

func (w *writer) spot(n api.Node) {
	w.put(api.Op{Kind: api.OpSpot, Spot: n.Spot})
}
