package tree

import (
	"slices"

	"tinder/api"
	"tinder/ranges"
)

// node is a node from which part after part is taken away: each call takes what it is named for, and says whether that was as it must be.
type node struct{ api.Node }

func (n *node) set() bool {
	set := n.Set
	n.Set = nil
	return len(set) <= api.MaxRanges && ranges.Right(set)
}

// group takes any number: which ones may be hangs on the whole tree.
func (n *node) group() bool {
	n.Group = 0
	return true
}

func (n *node) repeat() bool {
	least, most := n.Min, n.Max
	n.Min, n.Max = 0, 0
	right := 0 <= least && least <= api.MaxCount && (most == -1 || least <= most && most <= api.MaxCount)
	return right && n.mode(api.ModeGreedy, api.ModeLazy, api.ModeOwn)
}

func (n *node) try() bool {
	return n.mode(api.ModeGreedy, api.ModeLazy)
}

func (n *node) mode(modes ...api.ModeKind) bool {
	mode := n.Mode
	n.Mode = 0
	return slices.Contains(modes, mode)
}

func (n *node) spot() bool {
	spot := n.Spot
	n.Spot = 0
	return api.SpotStart <= spot && spot <= api.SpotInner
}

func (n *node) not() bool {
	n.Not = false
	return true
}

// bare says whether nothing is left beside the kids.
func (n *node) bare() bool {
	return len(n.Set) == 0 && n.Group == 0 && n.Min == 0 && n.Max == 0 && n.Mode == 0 && n.Spot == 0 && !n.Not
}

// kind is what a node has that is of it: from least to most kids, and what has takes away.
type kind struct {
	least, most int
	has         func(n *node) bool
}

// kinds are all, by their numbers; where there is none, has is nil.
func kinds() []kind {
	const many = api.MaxNodes
	return []kind{
		api.NodeEmpty:  {0, 0, (*node).bare},
		api.NodeSet:    {0, 0, (*node).set},
		api.NodeSeq:    {2, many, (*node).bare},
		api.NodeAlt:    {2, many, (*node).bare},
		api.NodeGroup:  {1, 1, (*node).group},
		api.NodeAtomic: {1, 1, (*node).bare},
		api.NodeRepeat: {1, 1, (*node).repeat},
		api.NodeBack:   {0, 0, (*node).group},
		api.NodeSpot:   {0, 0, (*node).spot},
		api.NodeAhead:  {1, 1, (*node).not},
		api.NodeBehind: {1, 1, (*node).not},
		api.NodeTry:    {1, 2, (*node).try},
		api.NodeFresh:  {1, 1, (*node).bare},
	}
}

// kinded says whether all nodes are of their kinds.
func (l nodes) kinded() bool {
	table := kinds()
	return !slices.ContainsFunc(l, func(n api.Node) bool {
		return int(n.Kind) >= len(table) || !table[n.Kind].fits(n)
	})
}

// fits says whether a node is of a kind.
func (k kind) fits(n api.Node) bool {
	if k.has == nil || len(n.Kids) < k.least || len(n.Kids) > k.most {
		return false
	}
	rest := node{n}
	return k.has(&rest) && rest.bare()
}
