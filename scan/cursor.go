package scan

import (
	"tinder/api"
)

const (
	digits    = "0123456789"
	letters   = "ABCDEFGHIJKLMNOPQRSTUVWXYZabcdefghijklmnopqrstuvwxyz"
	nameSigns = letters + digits + "_$"
)

// Decimal tells mostDecimal in place of a greater number.
const mostDecimal = 1 << 30

// cursor is code points, and how many of them are read. What tells false has read nothing, unless it says so.
type cursor struct {
	points []int
	at     int
}

func (c *cursor) done() bool {
	return c.at == len(c.points)
}

func (c *cursor) peek() (int, bool) {
	if c.done() {
		return 0, false
	}
	return c.points[c.at], true
}

func (c *cursor) next() (int, bool) {
	p, ok := c.peek()
	if ok {
		c.at++
	}
	return p, ok
}

func (c *cursor) take(text string) bool {
	rest := c.points[c.at:]
	if len(text) > len(rest) {
		return false
	}
	for i := range len(text) {
		if rest[i] != int(text[i]) {
			return false
		}
	}
	c.at += len(text)
	return true
}

func (c *cursor) oneOf(text string) (int, bool) {
	p, ok := c.peek()
	if !ok || !among(p, text) {
		return 0, false
	}
	return c.next()
}

func (c *cursor) decimal() (n, many int) {
	return c.number(10, len(c.points), mostDecimal)
}

// number reads the digits of a base that stand next, at most so many: their number, the greatest one in place of a greater one, and how many they are.
func (c *cursor) number(base, most, greatest int) (n, many int) {
	for many < most {
		p, ok := c.peek()
		d := worth(p)
		if !ok || d >= base {
			break
		}
		c.at++
		many++
		// A number as great as that stays, however many digits are still to come.
		if n > (greatest-d)/base {
			n = greatest
		} else {
			n = n*base + d
		}
	}
	return n, many
}

func (c *cursor) name() (string, bool) {
	try := *c
	name := try.signs()
	if name == "" || among(int(name[0]), digits) || !try.take(">") {
		return "", false
	}
	*c = try
	return name, true
}

// signs reads signs of names, at most as many as a name may have.
func (c *cursor) signs() string {
	var text []byte
	for len(text) < api.MaxName {
		p, ok := c.oneOf(nameSigns)
		if !ok {
			break
		}
		text = append(text, byte(p))
	}
	return string(text)
}

// among says whether a number is one of a text's bytes.
func among(p int, text string) bool {
	for i := range len(text) {
		if p == int(text[i]) {
			return true
		}
	}
	return false
}

// worth is what a code point counts as a digit of a base up to 16; too much for all of these, if it is none.
func worth(p int) int {
	switch {
	case '0' <= p && p <= '9':
		return p - '0'
	case 'a' <= p && p <= 'f':
		return p - 'a' + 10
	case 'A' <= p && p <= 'F':
		return p - 'A' + 10
	}
	return 16
}
