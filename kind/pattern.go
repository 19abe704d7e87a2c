package kind

import (
	"slices"

	"tinder/api"
)

// pattern is a tree at work, which is written or spread.
type pattern struct{ api.Tree }

// last is the place of the node that covers all.
func (p pattern) last() int {
	return len(p.Nodes) - 1
}

// plain says whether all nodes are such as a plain tree has.
func (p pattern) plain() bool {
	return !slices.ContainsFunc(p.Nodes, func(n api.Node) bool { return !plain(n) })
}

func plain(n api.Node) bool {
	switch n.Kind {
	case api.NodeEmpty, api.NodeSet, api.NodeSeq, api.NodeAlt, api.NodeGroup, api.NodeSpot:
		return true
	case api.NodeRepeat:
		return n.Mode != api.ModeOwn
	}
	return false
}
