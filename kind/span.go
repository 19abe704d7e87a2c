package kind

import (
	"tinder/api"
)

const (
	endless = -1      // a length, a count without end
	great   = 1 << 30 // what is longer counts as this
)

// span is the least and the most length of a part.
type span struct{ least, most int }

// span is that of the last node. A spread tree may be as deep as it has nodes: each one's is found from its kids' ahead of it.
func (p pattern) span() span {
	var spans []span
	for _, n := range p.Nodes {
		var kids []span
		for _, kid := range n.Kids {
			kids = append(kids, spans[kid])
		}
		spans = append(spans, above(n, kids...))
	}
	return spans[p.last()]
}

// above is the span of a node above kids that have these.
func above(n api.Node, kids ...span) span {
	switch n.Kind {
	case api.NodeSet:
		return span{1, 1}
	case api.NodeBack:
		return span{0, endless}
	case api.NodeSeq:
		return row(kids...)
	case api.NodeTry:
		return span{0, row(kids...).most}
	case api.NodeAlt:
		return choice(kids...)
	case api.NodeRepeat:
		return span{times(n.Min, kids[0].least), times(n.Max, kids[0].most)}
	case api.NodeGroup, api.NodeAtomic, api.NodeFresh:
		return kids[0]
	}
	return span{}
}

// row is the span of parts that stand one behind the other.
func row(parts ...span) span {
	var all span
	for _, part := range parts {
		all = span{plus(all.least, part.least), plus(all.most, part.most)}
	}
	return all
}

// choice is the span of any one of some parts.
func choice(parts ...span) span {
	all := parts[0]
	for _, part := range parts[1:] {
		all = span{min(all.least, part.least), longer(all.most, part.most)}
	}
	return all
}

func plus(a, b int) int {
	if a == endless || b == endless {
		return endless
	}
	return min(a+b, great)
}

func longer(a, b int) int {
	if a == endless || b == endless {
		return endless
	}
	return max(a, b)
}

func times(count, length int) int {
	switch {
	case count == 0 || length == 0:
		return 0
	case count == endless || length == endless:
		return endless
	}
	return min(count*length, great)
}
