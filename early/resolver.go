package early

import (
	"slices"

	"tinder/api"
	"tinder/parse"
	"tinder/tree"
)

// resolver is who resolves: a raw pattern, and its groups' numbers by their names.
type resolver struct {
	parse.Raw
	groups map[string]int
}

func resolverOf(r parse.Raw) *resolver {
	return &resolver{Raw: r, groups: map[string]int{}}
}

// resolve is the pattern's tree, or the first error and its place.
func (r *resolver) resolve() (t api.Tree, at int, e api.Errno) {
	if !r.sound() {
		return api.Tree{}, 0, api.ErrShape
	}
	if at, e := r.number(); e != api.OK {
		return api.Tree{}, at, e
	}
	return r.filled()
}

// sound says whether the pattern is sound.
func (r *resolver) sound() bool {
	return len(r.Places) == len(r.Tree.Names) && r.paired() && tree.Right(r.emptied())
}

// paired says whether the Refs are just those of the tree's NodeBacks, one each, in their order.
func (r *resolver) paired() bool {
	var backs []int
	for at, n := range r.Tree.Nodes {
		if n.Kind == api.NodeBack {
			backs = append(backs, at)
		}
	}
	return slices.EqualFunc(r.Refs, backs, func(ref parse.Ref, at int) bool {
		return ref.Node == at && right(ref)
	})
}

// right says whether a Ref has either a number or a name.
func right(ref parse.Ref) bool {
	return ref.Num > 0 && ref.Name == "" || ref.Num == 0 && ref.Name != ""
}

// emptied is the tree with NodeEmpty in place of each NodeBack, and empty names. There must be a node for each Ref.
func (r *resolver) emptied() api.Tree {
	t := api.Tree{Nodes: slices.Clone(r.Tree.Nodes), Names: make([]string, len(r.Tree.Names))}
	for _, ref := range r.Refs {
		// All else is left as it is: what a NodeBack has beside its kind, no NodeEmpty may have.
		t.Nodes[ref.Node].Kind = api.NodeEmpty
	}
	return t
}

// number puts the groups that have names under these, up to the first one whose name may not be: the place of that.
func (r *resolver) number() (at int, e api.Errno) {
	for i, name := range r.Tree.Names {
		if name == "" {
			continue
		}
		if !isName(name) || r.groups[name] > 0 {
			return r.Places[i], api.ErrName
		}
		r.groups[name] = i + 1
	}
	return 0, api.OK
}

// isName says whether a text that is not empty is a name: then a tree that has it, and nothing else that could be wrong, is spread.
func isName(text string) bool {
	return tree.Spread(api.Tree{Nodes: []api.Node{{Kind: api.NodeEmpty}}, Names: []string{text}})
}

// filled is the tree in memory of its own, with the group of each Ref; or the place of the first Ref that has none.
func (r *resolver) filled() (t api.Tree, at int, e api.Errno) {
	t = tree.Of(r.Tree, len(r.Tree.Nodes)-1)
	t.Names = slices.Clone(r.Tree.Names)
	for _, ref := range r.Refs {
		group := r.group(ref)
		if group == 0 {
			return api.Tree{}, ref.At, missing(ref)
		}
		t.Nodes[ref.Node].Group = group
	}
	return t, 0, api.OK
}

// group is the number of a Ref's group; 0, if it has none.
func (r *resolver) group(ref parse.Ref) int {
	switch {
	case ref.Name != "":
		return r.groups[ref.Name]
	case ref.Num <= len(r.Tree.Names):
		return ref.Num
	}
	return 0
}

// missing is the error of a Ref that has no group.
func missing(ref parse.Ref) api.Errno {
	if ref.Name != "" {
		return api.ErrName
	}
	return api.ErrGroup
}
