package show_test

import (
	"fmt"
	"strings"
	"unicode/utf8"

	"tinder/api"
	"tinder/tree"
)

// How texts bind, in the chapter's words.
const (
	asChoice   = "a choice"
	asSequence = "a sequence"
	asTerm     = "a term"
	asSpot     = "a spot"
)

// modelText is what Text tells, in the chapter's words.
func modelText(x api.Tree) (string, api.Errno) {
	if !tree.Right(x) {
		return "", api.ErrArg
	}
	text, _ := modelNode(x, len(x.Nodes)-1)
	if utf8.RuneCountInString(text) > 2000 {
		return "", api.ErrLong
	}
	return text, api.OK
}

// modelNode is the text of a node, and how it binds, by the chapter's table.
func modelNode(x api.Tree, at int) (text, binds string) {
	n := x.Nodes[at]
	kid := func(i int) string { return modelKid(x, n.Kind, n.Kids[i]) }
	all := func() (l []string) {
		for i := range n.Kids {
			l = append(l, kid(i))
		}
		return l
	}
	not := map[bool]string{false: "=", true: "!"}[n.Not]
	switch n.Kind {
	case api.NodeEmpty:
		return "(?:)", asTerm
	case api.NodeSet:
		return "[" + modelSet(n.Set) + "]", asTerm
	case api.NodeSeq:
		return strings.Join(all(), ""), asSequence
	case api.NodeAlt:
		return strings.Join(all(), "|"), asChoice
	case api.NodeGroup:
		if name := x.Names[n.Group-1]; len(name) > 0 {
			return fmt.Sprintf("(?<%s>%s)", name, kid(0)), asTerm
		}
		return fmt.Sprintf("(%s)", kid(0)), asTerm
	case api.NodeAtomic:
		return fmt.Sprintf("(?>%s)", kid(0)), asTerm
	case api.NodeRepeat:
		counts := fmt.Sprintf("{%d,%d}", n.Min, n.Max)
		if n.Max == -1 {
			counts = fmt.Sprintf("{%d,}", n.Min)
		}
		return kid(0) + counts + map[api.ModeKind]string{api.ModeGreedy: "", api.ModeLazy: "?", api.ModeOwn: "+"}[n.Mode], asSpot
	case api.NodeBack:
		if name := x.Names[n.Group-1]; len(name) > 0 {
			return fmt.Sprintf(`\k<%s>`, name), asTerm
		}
		return fmt.Sprintf(`\%d`, n.Group), asTerm
	case api.NodeSpot:
		return map[api.SpotKind]string{api.SpotStart: "^", api.SpotEnd: "$", api.SpotWord: `\b`, api.SpotInner: `\B`}[n.Spot], asSpot
	case api.NodeAhead:
		return fmt.Sprintf("(?%s%s)", not, kid(0)), asSpot
	case api.NodeBehind:
		return fmt.Sprintf("(?<%s%s)", not, kid(0)), asSpot
	}
	panic("no kind of a written tree")
}

// modelSet is what stands in brackets.
func modelSet(set []api.Range) string {
	var b strings.Builder
	for _, r := range set {
		fmt.Fprintf(&b, `\u{%x}`, r.Lo)
		if r.Hi != r.Lo {
			fmt.Fprintf(&b, `-\u{%x}`, r.Hi)
		}
	}
	return b.String()
}

// modelKid is the text of a kid below a kind.
func modelKid(x api.Tree, below api.NodeKind, at int) string {
	text, binds := modelNode(x, at)
	switch {
	case below == api.NodeSeq && (binds == asChoice || binds == asSequence), below == api.NodeAlt && binds == asChoice, below == api.NodeRepeat && binds != asTerm:
		return "(?:" + text + ")"
	}
	return text
}
