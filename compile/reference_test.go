package compile_test

import (
	"slices"

	"tinder/api"
	"tinder/fold"
	"tinder/spread"
	"tinder/tree"
)

// modelAnswer is what is told of a tree, in the chapter's words.
func modelAnswer(x api.Tree, flags api.Flags, tables api.Tables) answer {
	out, e := spread.Out(x)
	if e != api.OK {
		return answer{e: e}
	}
	m := &model{}
	ops := append(m.ops(out, 0, false), api.Op{Kind: api.OpEnd})
	if len(ops) > 2000 {
		return answer{e: api.ErrSize}
	}
	p := api.Program{Ops: ops, Groups: len(x.Names), Marks: m.marks, Lines: flags.Lines, Words: fold.Words(tables, flags.Fold)}
	if fold.Right(tables) && flags.Fold {
		p.Folds = tables.Folds
	}
	return answer{p: p}
}

// model counts the marks that are used.
type model struct{ marks int }

// ops is what becomes of a tree's last node where it stands at a place, towards the left or not.
func (m *model) ops(x api.Tree, at int, left bool) []api.Op {
	n, kids := x.Nodes[len(x.Nodes)-1], tree.Kids(x)
	switch n.Kind {
	case api.NodeSet:
		return []api.Op{{Kind: api.OpSet, Set: n.Set, Left: left}}
	case api.NodeSeq:
		if left {
			slices.Reverse(kids)
		}
		return m.row(at, left, kids...)
	case api.NodeAlt:
		return m.alt(kids, at, left)
	case api.NodeGroup:
		return slices.Concat([]api.Op{{Kind: api.OpOpen, Num: n.Group}}, m.ops(kids[0], at+1, left), []api.Op{{Kind: api.OpClose, Num: n.Group}})
	case api.NodeRepeat, api.NodeTry:
		return m.rounds(n, kids, at, left)
	case api.NodeFresh:
		forget := modelForget(kids[0])
		return append(forget, m.ops(kids[0], at+len(forget), left)...)
	case api.NodeAtomic:
		return m.apart(api.Op{Kind: api.OpAtomic}, kids[0], at, left)
	case api.NodeAhead:
		return m.apart(api.Op{Kind: api.OpLook, Not: n.Not}, kids[0], at, false)
	case api.NodeBehind:
		return m.apart(api.Op{Kind: api.OpLook, Not: n.Not}, kids[0], at, true)
	case api.NodeBack:
		return []api.Op{{Kind: api.OpBack, Num: n.Group, Left: left}}
	case api.NodeSpot:
		return []api.Op{{Kind: api.OpSpot, Spot: n.Spot}}
	}
	return nil
}

// row is what trees become, one behind the other.
func (m *model) row(at int, left bool, trees ...api.Tree) []api.Op {
	var ops []api.Op
	for _, x := range trees {
		ops = append(ops, m.ops(x, at+len(ops), left)...)
	}
	return ops
}

// alt is what a choice becomes: its first kid, and the choice of the others behind that. All jumps go to where these end.
func (m *model) alt(kids []api.Tree, at int, left bool) []api.Op {
	if len(kids) == 1 {
		return m.ops(kids[0], at, left)
	}
	first := m.ops(kids[0], at+1, left)
	others := at + 1 + len(first) + 1
	rest := m.alt(kids[1:], others, left)
	return slices.Concat([]api.Op{{Kind: api.OpSplit, To: at + 1, Else: others}}, first, []api.Op{{Kind: api.OpJump, To: others + len(rest)}}, rest)
}

// rounds is what a NodeRepeat or a NodeTry becomes.
func (m *model) rounds(n api.Node, kids []api.Tree, at int, left bool) []api.Op {
	mark := m.marks
	m.marks++
	ops := append([]api.Op{{Kind: api.OpSplit}, {Kind: api.OpMark, Num: mark}}, modelForget(kids[0])...)
	ops = append(ops, m.ops(kids[0], at+len(ops), left)...)
	ops = append(ops, api.Op{Kind: api.OpCheck, Num: mark})
	if n.Kind == api.NodeRepeat {
		ops = append(ops, api.Op{Kind: api.OpJump, To: at})
	} else {
		ops = append(ops, m.row(at+len(ops), left, kids[1:]...)...)
	}
	ops[0].To, ops[0].Else = at+1, at+len(ops)
	if n.Mode == lazy {
		ops[0].To, ops[0].Else = ops[0].Else, ops[0].To
	}
	return ops
}

// apart is what stands between an instruction that goes on behind OpYes, and that.
func (m *model) apart(begin api.Op, kid api.Tree, at int, left bool) []api.Op {
	inner := m.ops(kid, at+1, left)
	begin.To = at + 1 + len(inner) + 1
	return slices.Concat([]api.Op{begin}, inner, []api.Op{{Kind: api.OpYes}})
}

// modelForget forgets a tree's groups, if it has any.
func modelForget(x api.Tree) []api.Op {
	var groups []int
	for _, n := range x.Nodes {
		if n.Kind == api.NodeGroup {
			groups = append(groups, n.Group)
		}
	}
	if len(groups) == 0 {
		return nil
	}
	return []api.Op{{Kind: api.OpForget, Num: slices.Min(groups), Else: slices.Max(groups)}}
}
