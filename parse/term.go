package parse

import (
	"tinder/api"
	"tinder/class"
	"tinder/fold"
	"tinder/ranges"
)

// beginning reads a term from the sign on that it begins with: the place of its node, and whether it may be repeated.
type beginning func() (node int, repeats bool)

// beginnings are what reads a term, by the sign it begins with; with each other sign it is that sign alone.
func (r *reader) beginnings() map[int]beginning {
	return map[int]beginning{
		'^':  r.start,
		'$':  r.end,
		'(':  r.parenthesis,
		'.':  r.dot,
		'[':  r.brackets,
		'\\': r.backslash,
		'*':  r.none,
		'+':  r.none,
		'?':  r.none,
		'{':  r.none,
		'}':  r.none,
		']':  r.none,
	}
}

// none is of signs that no term begins with.
func (r *reader) none() (node int, repeats bool) {
	fail(r.At(), api.ErrSyntax)
	return 0, false
}

func (r *reader) start() (node int, repeats bool) {
	r.Next()
	return r.spot(api.SpotStart)
}

func (r *reader) end() (node int, repeats bool) {
	r.Next()
	return r.spot(api.SpotEnd)
}

func (r *reader) spot(kind api.SpotKind) (node int, repeats bool) {
	return r.put(api.Node{Kind: api.NodeSpot, Spot: kind}), false
}

// itself reads a code point that stands for itself.
func (r *reader) itself() (node int, repeats bool) {
	at := r.At()
	c, _ := r.Next()
	return r.one(at, c)
}

// one is the term at a place that is one code point, with the flag Fold all that are alike.
func (r *reader) one(at, c int) (node int, repeats bool) {
	set := ranges.Of(c)
	if r.flags.Fold {
		set = fold.Close(r.tables, set)
	}
	return r.set(at, set)
}

// set is the term at a place that is one code point of a set.
func (r *reader) set(at int, set []api.Range) (node int, repeats bool) {
	if len(set) > api.MaxRanges {
		fail(at, api.ErrLong)
	}
	return r.put(api.Node{Kind: api.NodeSet, Set: set}), true
}

func (r *reader) dot() (node int, repeats bool) {
	at := r.At()
	r.Next()
	var less []api.Range
	if !r.flags.All {
		less = fold.Lines()
	}
	return r.set(at, ranges.Not(less))
}

func (r *reader) brackets() (node int, repeats bool) {
	at := r.At()
	r.Next()
	set, e := class.Read(r.Scan, r.flags, r.tables)
	if e != api.OK {
		fail(at, e)
	}
	return r.set(at, set)
}

// parenthesis reads a group, or what looks ahead or back, or what is only put together.
func (r *reader) parenthesis() (node int, repeats bool) {
	at := r.At()
	r.Next()
	switch {
	case r.Take("?="):
		return r.look(at, api.NodeAhead, false)
	case r.Take("?!"):
		return r.look(at, api.NodeAhead, true)
	case r.Take("?<="):
		return r.look(at, api.NodeBehind, false)
	case r.Take("?<!"):
		return r.look(at, api.NodeBehind, true)
	case r.Take("?:"):
		return r.inner(at), true
	case r.Take("?>"):
		return r.put(api.Node{Kind: api.NodeAtomic}, r.inner(at)), true
	case r.Take("?<"):
		return r.group(at, r.name(at))
	case r.Take("?"):
		fail(at, api.ErrSyntax)
	}
	return r.group(at, "")
}

func (r *reader) look(at int, kind api.NodeKind, not bool) (node int, repeats bool) {
	return r.put(api.Node{Kind: kind, Not: not}, r.inner(at)), false
}

// group takes its number ahead of what it has in it: groups are numbered as they begin.
func (r *reader) group(at int, name string) (node int, repeats bool) {
	if len(r.raw.Places) == api.MaxGroups {
		fail(at, api.ErrGroup)
	}
	r.raw.Places = append(r.raw.Places, at)
	r.raw.Tree.Names = append(r.raw.Tree.Names, name)
	number := len(r.raw.Places)
	return r.put(api.Node{Kind: api.NodeGroup, Group: number}, r.inner(at)), true
}

// inner reads a choice and the ) behind it, of a term that began at a place, and tells the choice's node.
func (r *reader) inner(at int) int {
	node := r.choice()
	if !r.Take(")") {
		fail(at, api.ErrSyntax)
	}
	return node
}

// name reads a name and > of a term that began at a place.
func (r *reader) name(at int) string {
	name, is := r.Name()
	if !is {
		fail(at, api.ErrName)
	}
	return name
}

// backslash reads a spot, a reference to a group, or an escape of one code point or of a set.
func (r *reader) backslash() (node int, repeats bool) {
	at := r.At()
	r.Next()
	switch {
	case r.Take("b"):
		return r.spot(api.SpotWord)
	case r.Take("B"):
		return r.spot(api.SpotInner)
	case r.Take("k"):
		return r.named(at)
	}
	set, is, e := class.Escape(r.Scan, r.flags, r.tables)
	if e != api.OK {
		fail(at, e)
	}
	if is {
		return r.set(at, set)
	}
	if c, is := r.Escape(); is {
		return r.one(at, c)
	}
	return r.numbered(at)
}

// named reads the rest of a reference to a name.
func (r *reader) named(at int) (node int, repeats bool) {
	if !r.Take("<") {
		fail(at, api.ErrName)
	}
	return r.refer(Ref{At: at, Name: r.name(at)})
}

// numbered reads the rest of a reference to a number. No escape is next, so that a 0 that is next stands ahead of other digits, and is none.
func (r *reader) numbered(at int) (node int, repeats bool) {
	sign, _ := r.Peek()
	n, digits := r.Decimal()
	if digits == 0 || sign == '0' {
		fail(at, api.ErrSyntax)
	}
	return r.refer(Ref{At: at, Num: n})
}

func (r *reader) refer(ref Ref) (node int, repeats bool) {
	ref.Node = r.put(api.Node{Kind: api.NodeBack})
	r.raw.Refs = append(r.raw.Refs, ref)
	return ref.Node, true
}
