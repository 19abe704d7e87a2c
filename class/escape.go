package class

import (
	"tinder/api"
	"tinder/fold"
	"tinder/ranges"
)

// nameSigns are those of a set's name.
const nameSigns = "abcdefghijklmnopqrstuvwxyzABCDEFGHIJKLMNOPQRSTUVWXYZ0123456789_="

// meaning reads what must stand behind an escape's sign, and tells the set.
type meaning func() ([]api.Range, api.Errno)

// meanings are what escapes mean, by their signs. The sets are not closed yet.
func (r reader) meanings() map[int]meaning {
	digits := func() ([]api.Range, api.Errno) { return fold.Digits(), api.OK }
	spaces := func() ([]api.Range, api.Errno) { return fold.Spaces(), api.OK }
	words := func() ([]api.Range, api.Errno) { return fold.Words(r.tables, r.flags.Fold), api.OK }
	named := func() ([]api.Range, api.Errno) { return r.named() }
	return map[int]meaning{
		'd': digits,
		'D': others(digits),
		's': spaces,
		'S': others(spaces),
		'w': words,
		'W': others(words),
		'p': named,
		'P': others(named),
	}
}

// others reads the same, and tells all that the set does not have.
func others(m meaning) meaning {
	return func() ([]api.Range, api.Errno) {
		set, e := m()
		if e != api.OK {
			return nil, e
		}
		return ranges.Not(set), api.OK
	}
}

// set reads an escape, if the sign of one stands next: its set, not closed yet.
func (r reader) set() (set []api.Range, is bool, e api.Errno) {
	// Where all is read, Peek tells 0: no sign.
	sign, _ := r.Peek()
	means, is := r.meanings()[sign]
	if !is {
		return nil, false, api.OK
	}
	r.Next()
	set, e = means()
	return set, true, e
}

// named reads a name in braces: the set that has it.
func (r reader) named() ([]api.Range, api.Errno) {
	if !r.Take("{") {
		return nil, api.ErrSyntax
	}
	name := r.name()
	if name == "" || !r.Take("}") {
		return nil, api.ErrSyntax
	}
	set, is := fold.Prop(r.tables, name)
	if !is {
		return nil, api.ErrName
	}
	return set, api.OK
}

// name reads signs of names, at most as many as a name may have.
func (r reader) name() string {
	var text []byte
	for len(text) < api.MaxName {
		c, is := r.Any(nameSigns)
		if !is {
			break
		}
		text = append(text, byte(c))
	}
	return string(text)
}
