package tree

import (
	"tinder/api"
)

// sound is a tree at work, and whether it has what a written and a spread one have in common: it is in order, its nodes are of their kinds, its names are names.
func sound(t api.Tree) (tree, bool) {
	work, is := ordered(t)
	return work, is && work.kinded() && named(t.Names)
}

// written says whether a sound tree with so many names is written.
func (t tree) written(names int) bool {
	return t.deep() <= api.MaxDepth && t.all(never, api.NodeTry, api.NodeFresh) && t.counted(names) && t.all(upTo(names), api.NodeBack)
}

// spread says whether a sound tree with so many names is spread.
func (t tree) spread(names int) bool {
	return t.all(upTo(names), api.NodeGroup, api.NodeBack) && t.all(endless, api.NodeRepeat)
}

// counted says whether there are so many groups, numbered from 1 on in the order in which they begin.
func (t tree) counted(names int) bool {
	places := t.begun(api.NodeGroup)
	for i, at := range places {
		if t.nodes[at].Group != i+1 {
			return false
		}
	}
	return len(places) == names
}

func never(api.Node) bool {
	return false
}

// upTo asks whether a node's Group is from 1 to some number.
func upTo(groups int) func(api.Node) bool {
	return func(n api.Node) bool { return 1 <= n.Group && n.Group <= groups }
}

// endless asks whether a node repeats as often as it goes, and may go back.
func endless(n api.Node) bool {
	return n.Min == 0 && n.Max == -1 && n.Mode != api.ModeOwn
}
