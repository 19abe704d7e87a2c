package parse

import (
	"tinder/api"
)

// endless is the Max of a repeat that has none.
const endless = -1

// repeated reads how a term is repeated, if it is, and tells the place of the node.
func (r *reader) repeated(node int) int {
	least, most, is := r.times()
	if !is {
		return node
	}
	return r.put(api.Node{Kind: api.NodeRepeat, Min: least, Max: most, Mode: r.mode()}, node)
}

// times reads how often a term is repeated.
func (r *reader) times() (least, most int, is bool) {
	at := r.At()
	switch {
	case r.Take("*"):
		return 0, endless, true
	case r.Take("+"):
		return 1, endless, true
	case r.Take("?"):
		return 0, 1, true
	case r.Take("{"):
		least, most = r.counts(at)
		return least, most, true
	}
	return 0, 0, false
}

// counts reads n}, n,} or n,m} of what began at a place.
func (r *reader) counts(at int) (least, most int) {
	least, digits := r.Decimal()
	most = least
	if r.Take(",") {
		most = r.most()
	}
	switch {
	case digits == 0 || !r.Take("}"):
		fail(at, api.ErrSyntax)
	case max(least, most) > api.MaxCount:
		fail(at, api.ErrSize)
	case most != endless && least > most:
		fail(at, api.ErrOrder)
	}
	return least, most
}

// most reads the second count, if there is one.
func (r *reader) most() int {
	most, digits := r.Decimal()
	if digits == 0 {
		return endless
	}
	return most
}

// mode reads which way a repeat goes first.
func (r *reader) mode() api.ModeKind {
	switch {
	case r.Take("?"):
		return api.ModeLazy
	case r.Take("+"):
		return api.ModeOwn
	}
	return api.ModeGreedy
}
