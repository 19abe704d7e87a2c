package class

import (
	"tinder/api"
	"tinder/fold"
	"tinder/ranges"
	"tinder/scan"
)

// reader is who reads: a scan, and what the meaning of its signs hangs on. A scan that nobody made tells of no sign: to the reader all of it is read.
type reader struct {
	*scan.Scan
	flags  api.Flags
	tables api.Tables
}

// joined is what one of some sets has, with the flag Fold closed.
func (r reader) joined(sets ...[]api.Range) []api.Range {
	if r.flags.Fold {
		return fold.Close(r.tables, sets...)
	}
	return ranges.Join(sets...)
}

// part is what a part of brackets stands for. The sets are not closed yet: the join of all of them is.
type part struct {
	set []api.Range
	// A range may begin and end with what is one number alone.
	one    bool
	number int
}

// single is the part that is one number, be it a code point or not.
func single(c int) part {
	return part{set: []api.Range{{Lo: c, Hi: c}}, one: true, number: c}
}

// parts reads parts and ranges up to the ], and that: what they stand for.
func (r reader) parts() ([]api.Range, api.Errno) {
	var all gathered
	for !r.Take("]") {
		p, e := r.part()
		if e != api.OK {
			return nil, e
		}
		if r.Take("-]") {
			// No range goes on here: this - is a part of its own.
			all.put(p.set, single('-').set)
			break
		}
		if r.Take("-") {
			p, e = r.upTo(p)
		}
		if e != api.OK {
			return nil, e
		}
		all.put(p.set)
	}
	return all.ranges, api.OK
}

// upTo reads the second part of a range.
func (r reader) upTo(first part) (part, api.Errno) {
	second, e := r.part()
	switch {
	case e != api.OK:
		return part{}, e
	case !first.one || !second.one:
		return part{}, api.ErrSyntax
	case first.number > second.number:
		return part{}, api.ErrOrder
	}
	return part{set: []api.Range{{Lo: first.number, Hi: second.number}}}, api.OK
}

// part reads one part. No ] is next.
func (r reader) part() (part, api.Errno) {
	if r.Take(`\`) {
		return r.escaped()
	}
	c, is := r.Next()
	if !is {
		return part{}, api.ErrSyntax
	}
	return single(c), api.OK
}

// escaped reads the rest of a part that begins with a backslash.
func (r reader) escaped() (part, api.Errno) {
	if r.Take("b") {
		return single('\b'), api.OK
	}
	if r.Take("-") {
		return single('-'), api.OK
	}
	if c, is := r.Escape(); is {
		return single(c), api.OK
	}
	set, is, e := r.set()
	if !is {
		e = api.ErrSyntax
	}
	return part{set: set}, e
}

// fewRanges are so few that it isn't worth while to join them.
const fewRanges = 1000

// gathered are ranges in any order, some of them twice.
type gathered struct {
	ranges []api.Range
	most   int
}

// put joins all, whenever they are twice as many as were left then: so that even of a very long class, which names one great set over and over, no more is remembered than what it has.
func (g *gathered) put(sets ...[]api.Range) {
	for _, set := range sets {
		g.ranges = append(g.ranges, set...)
	}
	if len(g.ranges) > max(g.most, fewRanges) {
		g.ranges = ranges.Join(g.ranges)
		g.most = 2 * len(g.ranges)
	}
}
