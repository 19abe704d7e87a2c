package parse

import (
	"slices"

	"tinder/api"
	"tinder/scan"
	"tinder/tree"
)

// reader is who reads: a scan, what the meaning of its signs hangs on, and what is read up to here.
type reader struct {
	*scan.Scan
	flags  api.Flags
	tables api.Tables
	begins map[int]beginning
	raw    Raw
}

func readerOf(points []int, flags api.Flags, t api.Tables) *reader {
	r := &reader{Scan: scan.New(points...), flags: flags, tables: t}
	r.begins = r.beginnings()
	return r
}

// fault is an error, and where it was met.
type fault struct {
	at int
	e  api.Errno
}

// fail ends all reading, however deep in the pattern that is.
func fail(at int, e api.Errno) {
	panic(fault{at, e})
}

// read reads the pattern, up to its end or to the first error.
func (r *reader) read() (raw Raw, at int, e api.Errno) {
	defer func() {
		switch x := recover().(type) {
		case nil:
		case fault:
			raw, at, e = Raw{}, x.at, x.e
		default:
			panic(x)
		}
	}()
	r.choice()
	if !r.Done() {
		fail(r.At(), api.ErrSyntax)
	}
	if tree.Deep(r.raw.Tree) > api.MaxDepth {
		fail(0, api.ErrDepth)
	}
	return r.raw, 0, api.OK
}

// choice reads sequences with | between, and tells the place of their node.
func (r *reader) choice() int {
	kids := []int{r.sequence()}
	for r.Take("|") {
		kids = append(kids, r.sequence())
	}
	return r.above(api.NodeAlt, kids...)
}

// sequence reads all terms up to what ends them, and tells the place of their node.
func (r *reader) sequence() int {
	var kids []int
	for !r.ended() {
		kids = append(kids, r.term())
	}
	if len(kids) == 0 {
		return r.put(api.Node{Kind: api.NodeEmpty})
	}
	return r.above(api.NodeSeq, kids...)
}

// ended says whether a sequence goes on no more.
func (r *reader) ended() bool {
	sign, is := r.Peek()
	return !is || sign == '|' || sign == ')'
}

// term reads a term, repeated or not, and tells the place of its node. There is a sign that is next.
func (r *reader) term() int {
	sign, _ := r.Peek()
	begin, is := r.begins[sign]
	if !is {
		begin = r.itself
	}
	node, repeats := begin()
	if repeats {
		return r.repeated(node)
	}
	return node
}

// above is the place of a node above some kids; one alone stands for itself.
func (r *reader) above(kind api.NodeKind, kids ...int) int {
	if len(kids) == 1 {
		return kids[0]
	}
	return r.put(api.Node{Kind: kind}, kids...)
}

// put puts a node behind all that are read, and so behind all that its kids cover, and tells its place.
func (r *reader) put(n api.Node, kids ...int) int {
	n.Kids = slices.Clone(kids)
	r.raw.Tree.Nodes = append(r.raw.Tree.Nodes, n)
	return len(r.raw.Tree.Nodes) - 1
}
