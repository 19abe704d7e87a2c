package points

import (
	"tinder/api"
)

// Bytes behind a first one have six bits each.
const (
	lowBehind  = 0x80
	highBehind = 0xBF
	bitsBehind = 6
)

// lead is first bytes of one sort: from low to high they are mark and the code point's highest bits.
// So many bytes are behind them, and the second one is from next to last alone.
type lead struct {
	low, high, mark byte
	behind          int
	next, last      byte
}

// A second byte below next would be one of more bytes than are needed; one above last, a half's, or that of what lies above MaxPoint.
var leads = [...]lead{
	{0x00, 0x7F, 0x00, 0, 0, 0},
	{0xC2, 0xDF, 0xC0, 1, lowBehind, highBehind},
	{0xE0, 0xE0, 0xE0, 2, 0xA0, highBehind},
	{0xE1, 0xEC, 0xE0, 2, lowBehind, highBehind},
	{0xED, 0xED, 0xE0, 2, lowBehind, 0x9F},
	{0xEE, 0xEF, 0xE0, 2, lowBehind, highBehind},
	{0xF0, 0xF0, 0xF0, 3, 0x90, highBehind},
	{0xF1, 0xF3, 0xF0, 3, lowBehind, highBehind},
	{0xF4, 0xF4, 0xF0, 3, lowBehind, 0x8F},
}

// rest is what is left of a text.
type rest string

func (r rest) left() int {
	return len(r)
}

// take takes the next byte away, if there is one from low to high.
func (r *rest) take(low, high byte) (byte, bool) {
	text := *r
	if text == "" || text[0] < low || text[0] > high {
		return 0, false
	}
	*r = text[1:]
	return text[0], true
}

// reader reads a text: what is left of it, and the code points of what is read.
type reader struct {
	rest
	points []int
}

// point reads a code point's bytes. Where it tells false, it has taken those that may stand there.
func (r *reader) point() bool {
	for _, l := range leads {
		if first, ok := r.take(l.low, l.high); ok {
			return r.follow(l, int(first-l.mark))
		}
	}
	return false
}

// follow reads the bytes behind a first one, whose bits are given.
func (r *reader) follow(l lead, c int) bool {
	low, high := l.next, l.last
	for range l.behind {
		b, ok := r.take(low, high)
		if !ok {
			return false
		}
		c = c<<bitsBehind | int(b-lowBehind)
		low, high = lowBehind, highBehind
	}
	r.points = append(r.points, c)
	return true
}

// sizes are by how many bytes are behind the first one: the last code point of these, and what marks the first byte.
var sizes = [...]struct {
	last int
	mark byte
}{
	{0x7F, 0x00},
	{0x7FF, 0xC0},
	{0xFFFF, 0xE0},
	{api.MaxPoint, 0xF0},
}

// put puts the bytes of a code point that is no half behind others.
func put(text []byte, c int) []byte {
	behind := 0
	for c > sizes[behind].last {
		behind++
	}
	text = append(text, sizes[behind].mark|byte(c>>(behind*bitsBehind)))
	for behind > 0 {
		behind--
		text = append(text, lowBehind|byte(c>>(behind*bitsBehind)&(1<<bitsBehind-1)))
	}
	return text
}
