package compile

import (
	"tinder/api"
)

// ops are instructions, one behind the other.
type ops []api.Op

// next is the place behind all.
func (l *ops) next() int {
	return len(*l)
}

// put puts instructions behind all others.
func (l *ops) put(more ...api.Op) {
	*l = append(*l, more...)
}

// hold keeps the next place for an instruction that goes to where nothing is written yet.
func (l *ops) hold() int {
	at := l.next()
	l.put(api.Op{})
	return at
}

// fill puts an instruction at a place that was held.
func (l *ops) fill(at int, op api.Op) {
	(*l)[at] = op
}

// fork splits, at a place that was held, what stands behind that from what comes next; a lazy one goes to that first.
func (l *ops) fork(at int, mode api.ModeKind) {
	to, other := at+1, l.next()
	if mode == api.ModeLazy {
		to, other = other, to
	}
	l.fill(at, api.Op{Kind: api.OpSplit, To: to, Else: other})
}
