package show

import (
	"strconv"
	"strings"

	"tinder/api"
)

// node is the node at work, each of a tree's in turn: with the pieces of those ahead of it, and the names of all groups.
type node struct {
	api.Node
	pieces []piece
	names  []string
}

// text is the text of a written tree.
func text(t api.Tree) (string, api.Errno) {
	n := &node{names: t.Names}
	kinds := n.kinds()
	var last piece
	for _, n.Node = range t.Nodes {
		last = kinds[n.Kind]()
		// A text has its kids' texts in it: one that is too long makes all too long, and ends it at once, however many are still to come. Its signs are all of one byte.
		if len(last.text) > api.MaxPattern {
			return "", api.ErrLong
		}
		n.pieces = append(n.pieces, last)
	}
	return last.text, api.OK
}

// kinds are what tells a node's piece, by its kind: all those that a written tree may have.
func (n *node) kinds() map[api.NodeKind]func() piece {
	return map[api.NodeKind]func() piece{
		api.NodeEmpty:  n.empty,
		api.NodeSet:    n.set,
		api.NodeSeq:    n.seq,
		api.NodeAlt:    n.alt,
		api.NodeGroup:  n.group,
		api.NodeAtomic: n.atomic,
		api.NodeRepeat: n.repeat,
		api.NodeBack:   n.back,
		api.NodeSpot:   n.spot,
		api.NodeAhead:  n.ahead,
		api.NodeBehind: n.behind,
	}
}

// inner are the kids' texts, where nothing may stand that binds more loosely.
func (n *node) inner(loosest bind) []string {
	var texts []string
	for _, kid := range n.Kids {
		texts = append(texts, n.pieces[kid].among(loosest))
	}
	return texts
}

// only is the text of the one kid.
func (n *node) only(loosest bind) string {
	return n.inner(loosest)[0]
}

func (n *node) empty() piece {
	return whole(term, "(?:)")
}

func (n *node) set() piece {
	var texts []string
	for _, r := range n.Set {
		texts = append(texts, sign(r.Lo))
		if r.Lo != r.Hi {
			texts = append(texts, "-", sign(r.Hi))
		}
	}
	return whole(term, "[", strings.Join(texts, ""), "]")
}

// sign is a code point, as it stands in brackets.
func sign(c int) string {
	return `\u{` + strconv.FormatInt(int64(c), 16) + "}"
}

func (n *node) seq() piece {
	return whole(sequence, n.inner(spot)...)
}

func (n *node) alt() piece {
	return whole(choice, strings.Join(n.inner(sequence), "|"))
}

func (n *node) group() piece {
	name := n.name()
	if name != "" {
		name = "?<" + name + ">"
	}
	return whole(term, "(", name, n.only(choice), ")")
}

// name is the name of the node's group; the empty one, if that has none.
func (n *node) name() string {
	return n.names[n.Group-1]
}

func (n *node) atomic() piece {
	return whole(term, "(?>", n.only(choice), ")")
}

func (n *node) repeat() piece {
	return whole(spot, n.only(term), "{", strconv.Itoa(n.Min), ",", n.most(), "}", n.mode())
}

// most is a repeat's second count; nothing, if it goes on without end.
func (n *node) most() string {
	if n.Max < 0 {
		return ""
	}
	return strconv.Itoa(n.Max)
}

// mode is what stands behind a repeat's counts.
func (n *node) mode() string {
	switch n.Mode {
	case api.ModeLazy:
		return "?"
	case api.ModeOwn:
		return "+"
	}
	return ""
}

func (n *node) back() piece {
	if name := n.name(); name != "" {
		return whole(term, `\k<`, name, ">")
	}
	return whole(term, `\`, strconv.Itoa(n.Group))
}

func (n *node) spot() piece {
	signs := [...]string{api.SpotStart: "^", api.SpotEnd: "$", api.SpotWord: `\b`, api.SpotInner: `\B`}
	return whole(spot, signs[n.Spot])
}

func (n *node) ahead() piece {
	return n.look("(?")
}

func (n *node) behind() piece {
	return n.look("(?<")
}

// look is the piece of what looks ahead or back, which begins with a head.
func (n *node) look(head string) piece {
	asks := "="
	if n.Not {
		asks = "!"
	}
	return whole(spot, head, asks, n.only(choice), ")")
}
