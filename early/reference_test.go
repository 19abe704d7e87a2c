package early_test

import (
	"reflect"
	"regexp"
	"slices"

	"tinder/api"
	"tinder/parse"
	"tinder/tree"
)

var namePattern = regexp.MustCompile(`^[A-Za-z_$][A-Za-z0-9_$]{0,39}$`)

// modelSound says whether a raw pattern is sound, in the chapter's words.
func modelSound(r parse.Raw) bool {
	// Its Refs' Nodes rise ..
	for i, ref := range r.Refs {
		if i > 0 && ref.Node <= r.Refs[i-1].Node {
			return false
		}
	}
	// .. and are just the NodeBacks of its tree; each of these has nothing but its Kind ..
	x := api.Tree{Nodes: slices.Clone(r.Tree.Nodes)}
	for at, n := range r.Tree.Nodes {
		is := slices.ContainsFunc(r.Refs, func(ref parse.Ref) bool { return ref.Node == at })
		if is != (n.Kind == api.NodeBack) {
			return false
		}
		if is {
			if !reflect.DeepEqual(bareNode(n), api.Node{Kind: api.NodeBack}) {
				return false
			}
			x.Nodes[at] = api.Node{Kind: api.NodeEmpty}
		}
	}
	for _, ref := range r.Refs {
		if ref.Node < 0 || ref.Node >= len(r.Tree.Nodes) {
			return false
		}
		// .. each Ref has a Num from 1 on and no Name, or Num 0 and a Name ..
		if !(ref.Num >= 1 && len(ref.Name) == 0) && !(ref.Num == 0 && len(ref.Name) > 0) {
			return false
		}
	}
	// .. there are as many Places as names; and the tree with NodeEmpty in place of each NodeBack, and empty names, is written.
	for range r.Tree.Names {
		x.Names = append(x.Names, "")
	}
	return len(r.Places) == len(r.Tree.Names) && tree.Right(x)
}

// modelGroup is a Ref's group, and whether it has one.
func modelGroup(names []string, ref parse.Ref) (int, bool) {
	if ref.Num > 0 {
		return ref.Num, len(names) >= ref.Num
	}
	at := slices.Index(names, ref.Name)
	return at + 1, at >= 0
}

// modelResolve is what Resolve tells, in the chapter's words.
func modelResolve(r parse.Raw) (api.Tree, int, api.Errno) {
	if !modelSound(r) {
		return api.Tree{}, 0, api.ErrShape
	}
	for i, name := range r.Tree.Names {
		if name != "" && (!namePattern.MatchString(name) || slices.Index(r.Tree.Names, name) < i) {
			return api.Tree{}, r.Places[i], api.ErrName
		}
	}
	out := cloneTree(r.Tree)
	for _, ref := range r.Refs {
		n, is := modelGroup(r.Tree.Names, ref)
		switch {
		case is:
			out.Nodes[ref.Node].Group = n
		case ref.Num > 0:
			return api.Tree{}, ref.At, api.ErrGroup
		default:
			return api.Tree{}, ref.At, api.ErrName
		}
	}
	return out, 0, api.OK
}

// modelRead is what Read tells, in the chapter's words.
func modelRead(text string, flags api.Flags, x api.Tables) (api.Tree, int, api.Errno) {
	r, at, e := parse.Read(text, flags, x)
	if e != api.OK {
		return api.Tree{}, at, e
	}
	return modelResolve(r)
}

// modelFlags is what Flags tells, in the chapter's words.
func modelFlags(text string) (api.Flags, bool) {
	var many [256]int
	for i := range len(text) {
		many[text[i]]++
	}
	right := many['i'] + many['m'] + many['s'] + many['y']
	if right != len(text) || max(many['i'], many['m'], many['s'], many['y']) > 1 {
		return api.Flags{}, false
	}
	return api.Flags{Fold: many['i'] == 1, Lines: many['m'] == 1, All: many['s'] == 1, Sticky: many['y'] == 1}, true
}
