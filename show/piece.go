package show

import (
	"strings"
)

// bind is how a text binds, the loosest way first.
type bind uint8

const (
	choice bind = iota
	sequence
	spot // a term that may not be repeated
	term
)

// piece is a text, and how it binds.
type piece struct {
	text  string
	binds bind
}

// whole is some texts, one behind the other, and how they bind together.
func whole(binds bind, texts ...string) piece {
	return piece{strings.Join(texts, ""), binds}
}

// among is a piece's text, put in (?: and ) where what binds so loosely may not stand.
func (p piece) among(loosest bind) string {
	if p.binds < loosest {
		return "(?:" + p.text + ")"
	}
	return p.text
}
