package kind

import (
	"slices"

	"tinder/api"
)

// maxLoad is how great the numbers of a load may be.
const maxLoad = 200

// load is how many probes and ways a part has.
type load struct{ probes, ways int }

// fits is a load, and true; none and false, if its numbers are too great. What is asked at each step is so small that no number runs over.
func (l load) fits() (load, bool) {
	if l.probes > maxLoad || l.ways > maxLoad {
		return load{}, false
	}
	return l, true
}

// then is the load of a part with another one behind it.
func (l load) then(next load) load {
	return load{l.probes + l.ways*next.probes, l.ways * next.ways}
}

// or is the load of either of two parts.
func (l load) or(other load) load {
	return load{l.probes + other.probes, l.ways + other.ways}
}

// once is the load of a part whose ways end at a probe, but for the first one.
func (l load) once() load {
	return load{l.probes + 1, 1}
}

// load is that of a node, which is gone through towards the left, or not; false, if it has none.
func (p pattern) load(at int, left bool) (load, bool) {
	n := p.Nodes[at]
	kids, ok := p.loads(n, left)
	if !ok {
		return load{}, false
	}
	switch n.Kind {
	case api.NodeEmpty:
		return load{0, 1}, true
	case api.NodeSeq:
		if left {
			slices.Reverse(kids)
		}
		return folded(load.then, kids...)
	case api.NodeAlt:
		return folded(load.or, kids...)
	case api.NodeGroup:
		return kids[0], true
	case api.NodeRepeat:
		return repeated(n, kids[0])
	case api.NodeAtomic, api.NodeAhead, api.NodeBehind:
		return kids[0].once().fits()
	}
	return load{1, 1}, true
}

// loads are those of a node's kids; false, if one of them has none.
func (p pattern) loads(n api.Node, left bool) ([]load, bool) {
	// A look says for what is in it which way that is gone through, whatever stands above.
	left = n.Kind == api.NodeBehind || left && n.Kind != api.NodeAhead
	var loads []load
	for _, kid := range n.Kids {
		l, ok := p.load(kid, left)
		if !ok {
			return nil, false
		}
		loads = append(loads, l)
	}
	return loads, true
}

// folded is the load of some parts, put together one by one.
func folded(join func(a, b load) load, parts ...load) (load, bool) {
	all := parts[0]
	for _, part := range parts[1:] {
		next, ok := join(all, part).fits()
		if !ok {
			return load{}, false
		}
		all = next
	}
	return all, true
}

// repeated is the load of a repeat above a kid that has this one.
func repeated(n api.Node, kid load) (load, bool) {
	if n.Max == endless {
		return load{}, false
	}
	all, ok := kid.tries(n.Max - n.Min)
	if ok {
		all, ok = kid.rounds(n.Min, all)
	}
	if ok && n.Mode == api.ModeOwn {
		all, ok = all.once().fits()
	}
	return all, ok
}

// tries is the load of so many rounds that may be left out, each ahead of the others: where it is taken, it is asked whether it took something.
func (l load) tries(many int) (load, bool) {
	all, ok := load{0, 1}, true
	for i := 0; i < many && ok; i++ {
		all, ok = l.then(load{1, 1}).then(all).or(load{0, 1}).fits()
	}
	return all, ok
}

// rounds is the load of so many rounds that must be, and of what stands behind them.
func (l load) rounds(many int, behind load) (load, bool) {
	all, ok := behind, true
	for i := 0; i < many && ok; i++ {
		all, ok = l.then(all).fits()
	}
	return all, ok
}
