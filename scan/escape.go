package scan

import (
	"tinder/api"
	"tinder/points"
)

// syntax are the signs that stand for themselves behind a backslash.
const syntax = `^$\.*+?()[]{}|/`

// letterBits are those of a letter that its control code point has: 5.
const letterBits = 1<<5 - 1

// tooGreat is no code point any more.
const tooGreat = api.MaxPoint + 1

// itself is the code point of an escape that has one sign alone.
type itself int

func (p itself) point() (int, bool) {
	return int(p), true
}

// escapes are what reads the rest of an escape, by its first sign. Where one tells false, it may have read some.
func (c *cursor) escapes() map[int]func() (int, bool) {
	m := map[int]func() (int, bool){
		'f': itself(12).point,
		'n': itself(10).point,
		'r': itself(13).point,
		't': itself(9).point,
		'v': itself(11).point,
		'c': c.control,
		'0': c.zero,
		'x': c.short,
		'u': c.long,
	}
	for i := range len(syntax) {
		sign := int(syntax[i])
		m[sign] = itself(sign).point
	}
	return m
}

func (c *cursor) escape() (int, bool) {
	try := *c
	sign, _ := try.next()
	read, ok := try.escapes()[sign]
	if !ok {
		return 0, false
	}
	p, ok := read()
	if !ok {
		return 0, false
	}
	*c = try
	return p, true
}

// control reads a letter.
func (c *cursor) control() (int, bool) {
	p, ok := c.oneOf(letters)
	return p & letterBits, ok
}

// zero asks that no digit is next: a number would stand there.
func (c *cursor) zero() (int, bool) {
	p, ok := c.peek()
	return 0, !ok || !among(p, digits)
}

// short reads two hexadecimal digits.
func (c *cursor) short() (int, bool) {
	return c.hexadecimal(2)
}

// long reads a number in braces, or four hexadecimal digits, or a pair of halves.
func (c *cursor) long() (int, bool) {
	if c.take("{") {
		return c.braced()
	}
	hi, ok := c.hexadecimal(4)
	if !ok {
		return 0, false
	}
	pair := *c
	if p, is := pair.lower(hi); is {
		*c = pair
		return p, true
	}
	return hi, true
}

// lower reads the lower half behind an upper one: what both stand for.
func (c *cursor) lower(hi int) (int, bool) {
	if !c.take(`\u`) {
		return 0, false
	}
	lo, ok := c.hexadecimal(4)
	if !ok {
		return 0, false
	}
	return points.Pair(hi, lo)
}

// braced reads hexadecimal digits, as many as there are, and the brace behind them.
func (c *cursor) braced() (int, bool) {
	p, many := c.number(16, len(c.points), tooGreat)
	if many == 0 || p > api.MaxPoint || !c.take("}") {
		return 0, false
	}
	return p, true
}

// hexadecimal reads just so many hexadecimal digits, 5 at most.
func (c *cursor) hexadecimal(many int) (int, bool) {
	p, got := c.number(16, many, tooGreat)
	if got < many {
		return 0, false
	}
	return p, true
}
