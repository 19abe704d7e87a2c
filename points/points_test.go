package points_test

import (
	"math"
	"slices"
	"strings"
	"testing"
	"unicode/utf16"
	"unicode/utf8"

	"tinder/api"
	"tinder/points"
)

// spelt are code points and their bytes, written out: the ends of what has one, two, three and four bytes, and about the halves.
var spelt = []struct {
	c int
	s string
}{
	{0, "\x00"}, {1, "\x01"}, {0x61, "a"}, {0x7E, "\x7E"}, {0x7F, "\x7F"},
	{0x80, "\xC2\x80"}, {0x81, "\xC2\x81"}, {0xBF, "\xC2\xBF"}, {0xC0, "\xC3\x80"}, {0xE9, "\xC3\xA9"}, {0x7FE, "\xDF\xBE"}, {0x7FF, "\xDF\xBF"},
	{0x800, "\xE0\xA0\x80"}, {0x801, "\xE0\xA0\x81"}, {0xFFF, "\xE0\xBF\xBF"}, {0x1000, "\xE1\x80\x80"}, {0x20AC, "\xE2\x82\xAC"}, {0xCFFF, "\xEC\xBF\xBF"},
	{0xD000, "\xED\x80\x80"}, {0xD7FF, "\xED\x9F\xBF"}, {0xE000, "\xEE\x80\x80"}, {0xFFFD, "\xEF\xBF\xBD"}, {0xFFFE, "\xEF\xBF\xBE"}, {0xFFFF, "\xEF\xBF\xBF"},
	{0x10000, "\xF0\x90\x80\x80"}, {0x1F600, "\xF0\x9F\x98\x80"}, {0x3FFFF, "\xF0\xBF\xBF\xBF"}, {0x40000, "\xF1\x80\x80\x80"}, {0xFFFFF, "\xF3\xBF\xBF\xBF"},
	{0x100000, "\xF4\x80\x80\x80"}, {0x10FFFE, "\xF4\x8F\xBF\xBE"}, {0x10FFFF, "\xF4\x8F\xBF\xBF"},
}

// wrong are numbers that no text has.
var wrong = []int{
	-1, -2, -0x61, math.MinInt, math.MinInt32, 0xD800, 0xD801, 0xDBFF, 0xDC00, 0xDC01, 0xDFFF, 0x110000, 0x110001, 0x1FFFFF, 0x200000,
	math.MaxInt32, math.MaxUint32, 1<<32 + 0x61, 1<<40 + 0xE9, math.MaxInt,
}

// takes fails unless a text has these code points.
func takes(t *testing.T, s string, want []int) {
	t.Helper()
	l, at, e := points.Of(s)
	if e != api.OK || at != 0 || !slices.Equal(l, want) {
		t.Errorf("%.40q: %.40x, %d, %v; want %.40x", s, l, at, e, want)
	}
}

// refuses fails unless a text is not right from a place on.
func refuses(t *testing.T, s string, want int) {
	t.Helper()
	l, at, e := points.Of(s)
	if e != api.ErrShape || at != want || len(l) != 0 {
		t.Errorf("%.40q: %.40x, %d, %v; want ErrShape at %d", s, l, at, e, want)
	}
}

// long fails unless a text is too long.
func long(t *testing.T, s string) {
	t.Helper()
	l, at, e := points.Of(s)
	if e != api.ErrLong || at != 0 || len(l) != 0 {
		t.Errorf("%.40q: %.40x, %d, %v; want ErrLong", s, l, at, e)
	}
}

// tells fails unless code points have a text.
func tells(t *testing.T, want string, l ...int) {
	t.Helper()
	if s, ok := points.Text(l...); !ok || s != want {
		t.Errorf("%.40x: %.40q, %v; want %.40q", l, s, ok, want)
	}
}

// mute fails unless numbers have no text.
func mute(t *testing.T, l ...int) {
	t.Helper()
	if s, ok := points.Text(l...); ok || s != "" {
		t.Errorf("%.40x: %.40q, %v; want none", l, s, ok)
	}
}

// TestOf: P2.1, of texts that are right.
func TestOf(t *testing.T) {
	takes(t, "", nil)
	takes(t, "aé", []int{0x61, 0xE9})
	var whole string
	var all []int
	for _, x := range spelt {
		takes(t, x.s, []int{x.c})
		takes(t, "a"+x.s+"b"+x.s, []int{0x61, x.c, 0x62, x.c})
		whole += x.s
		all = append(all, x.c)
		takes(t, whole, all)
	}
}

// TestOfAmid: P2.1, of texts that end amid a code point, or go on with what may not stand there.
func TestOfAmid(t *testing.T) {
	refuses(t, "\x61\xC3", 2)
	refuses(t, "\x61\xC3\x61", 2)
	for _, x := range spelt {
		for n := 1; n < len(x.s); n++ {
			refuses(t, x.s[:n], n)
			refuses(t, "ab\xC3\xA9"+x.s[:n], 4+n)
			for _, next := range []string{"\x00", "a", "\x7F", "\xC0", "\xC3\xA9", "\xE2\x82\xAC", "\xF0\x9F\x98\x80", "\xFF"} {
				refuses(t, "a"+x.s[:n]+next, 1+n)
			}
		}
		refuses(t, x.s+"\x80", len(x.s))
		refuses(t, x.s+"\xFF"+x.s, len(x.s))
	}
}

// TestOfNone: P2.1, of bytes that begin nothing, more bytes than are needed, halves, and what lies above MaxPoint.
func TestOfNone(t *testing.T) {
	for _, x := range []struct {
		s  string
		at int
	}{
		{"\x80", 0}, {"\xBF", 0}, {"\xA9\xC3", 0}, {"\xC0", 0}, {"\xC1", 0}, {"\xF5", 0}, {"\xF8\x88\x80\x80\x80", 0}, {"\xFC", 0}, {"\xFE", 0}, {"\xFF", 0},
		{"\xC0\x80", 0}, {"\xC1\xBF", 0}, {"\xE0\x80\x80", 1}, {"\xE0\x9F\xBF", 1}, {"\xF0\x80\x80\x80", 1}, {"\xF0\x8F\xBF\xBF", 1},
		{"\xED\xA0\x80", 1}, {"\xED\xAF\xBF", 1}, {"\xED\xB0\x80", 1}, {"\xED\xBF\xBF", 1}, {"\xED\xA0\xBD\xED\xB8\x80", 1},
		{"\xF4\x90\x80\x80", 1}, {"\xF4\xBF\xBF\xBF", 1}, {"\xF5\x80\x80\x80", 0}, {"\xF7\xBF\xBF\xBF", 0},
	} {
		refuses(t, x.s, x.at)
		refuses(t, "a\xF0\x9F\x98\x80"+x.s, 5+x.at)
		refuses(t, x.s+"a", x.at)
	}
}

// begins says of every text that is the beginning of a code point's bytes, and not all of them.
func begins() map[string]bool {
	l := map[string]bool{}
	for c := range rune(utf8.MaxRune + 1) {
		if utf8.ValidRune(c) {
			s := string(c)
			for n := 1; n < len(s); n++ {
				l[s[:n]] = true
			}
		}
	}
	return l
}

// beginning is how many first bytes of a text are the beginning of a right one, at most.
func beginning(s string, begins map[string]bool) int {
	for end := len(s); ; end-- {
		if utf8.ValidString(s[:end]) {
			return end
		}
		for n := 1; n <= min(3, end); n++ {
			if utf8.ValidString(s[:end-n]) && begins[s[end-n:end]] {
				return end
			}
		}
	}
}

// ints are a right text's code points.
func ints(s string) []int {
	var l []int
	for _, c := range s {
		l = append(l, int(c))
	}
	return l
}

// TestOfAllRows: P2.1, of all texts of up to four bytes about the ends of what may stand where, behind a code point and alone.
func TestOfAllRows(t *testing.T) {
	begins := begins()
	ends := "\x00\x61\x7F\x80\x8F\x90\x9F\xA0\xBF\xC0\xC1\xC2\xDF\xE0\xE1\xEC\xED\xEE\xEF\xF0\xF1\xF3\xF4\xF5\xFF"
	var try func(s string)
	try = func(s string) {
		if utf8.ValidString(s) {
			takes(t, s, ints(s))
		} else {
			at := beginning(s, begins)
			refuses(t, s, at)
			refuses(t, "\xC3\xA9"+s, 2+at)
		}
		for i := range len(ends) {
			if len(s) < 4 {
				try(s + ends[i:i+1])
			}
		}
	}
	try("")
}

// TestOfAllPairs: P2.1, of all first and second bytes.
func TestOfAllPairs(t *testing.T) {
	begins := begins()
	for first := range 256 {
		for second := range 256 {
			s := string([]byte{byte(first), byte(second)})
			if utf8.ValidString(s) {
				takes(t, s, ints(s))
			} else {
				refuses(t, s, beginning(s, begins))
			}
		}
	}
}

// TestOfLong: P2.1, about MaxText, whatever the bytes are; ErrLong comes ahead of ErrShape.
func TestOfLong(t *testing.T) {
	for _, x := range spelt {
		many := api.MaxText / len(x.s)
		s := strings.Repeat(x.s, many)
		want := slices.Repeat([]int{x.c}, many)
		for len(s) < api.MaxText {
			s += "a"
			want = append(want, 0x61)
		}
		takes(t, s, want)
		long(t, s+"a")
		long(t, s+x.s)
		long(t, s+s)
		long(t, s+"\xFF")
		long(t, "\xFF"+s)
		long(t, "\xC3"+s)
	}
	almost := strings.Repeat("a", api.MaxText-1)
	takes(t, almost, slices.Repeat([]int{0x61}, api.MaxText-1))
	refuses(t, almost+"\xFF", api.MaxText-1)
	refuses(t, almost+"\xC3", api.MaxText)
	refuses(t, "\xFF"+almost, 0)
	refuses(t, strings.Repeat("\xFF", api.MaxText), 0)
	long(t, strings.Repeat("\xFF", api.MaxText+1))
	long(t, strings.Repeat("a", 1<<22))
}

// TestText: P2.2, of code points that have a text.
func TestText(t *testing.T) {
	tells(t, "")
	tells(t, "aé", 0x61, 0xE9)
	var whole string
	var all []int
	for _, x := range spelt {
		tells(t, x.s, x.c)
		tells(t, "a"+x.s+"b"+x.s, 0x61, x.c, 0x62, x.c)
		whole += x.s
		all = append(all, x.c)
		tells(t, whole, all...)
	}
}

// TestTextNone: P2.2, of numbers that are no code points, and of halves, wherever they stand.
func TestTextNone(t *testing.T) {
	for _, c := range wrong {
		mute(t, c)
		mute(t, c, 0x61)
		mute(t, 0x61, c)
		mute(t, 0x61, 0x1F600, c, 0x62)
		mute(t, append(make([]int, api.MaxText-1), c)...)
		mute(t, append(make([]int, api.MaxText), c)...)
	}
	mute(t, 0xD83D, 0xDE00)
}

// TestTextLong: P2.2, about MaxText, by bytes and not by code points.
func TestTextLong(t *testing.T) {
	for _, x := range spelt {
		many := api.MaxText / len(x.s)
		l := slices.Repeat([]int{x.c}, many)
		s := strings.Repeat(x.s, many)
		for len(s) < api.MaxText {
			l = append(l, 0x61)
			s += "a"
		}
		tells(t, s, l...)
		mute(t, append(slices.Clone(l), 0x61)...)
		mute(t, append(slices.Clone(l), x.c)...)
		mute(t, append([]int{x.c}, l...)...)
		mute(t, slices.Repeat(l, 3)...)
	}
	almost := make([]int, api.MaxText-1)
	tells(t, string(make([]byte, api.MaxText-1)), almost...)
	for _, c := range []int{0x80, 0x800, 0x10000} {
		mute(t, append(slices.Clone(almost), c)...)
		mute(t, append([]int{c}, almost...)...)
	}
	mute(t, make([]int, 1<<22)...)
}

// TestPair: P2.3, of all numbers about the halves.
func TestPair(t *testing.T) {
	if c, ok := points.Pair(0xD83D, 0xDE00); c != 0x1F600 || !ok {
		t.Errorf("%x, %v", c, ok)
	}
	for hi := 0xD7F0; hi < 0xE010; hi++ {
		for lo := 0xD7F0; lo < 0xE010; lo++ {
			want, is := 0, hi >= 0xD800 && hi < 0xDC00 && lo >= 0xDC00 && lo < 0xE000
			if is {
				want = int(utf16.DecodeRune(rune(hi), rune(lo)))
			}
			if c, ok := points.Pair(hi, lo); c != want || ok != is {
				t.Fatalf("%x, %x: %x, %v", hi, lo, c, ok)
			}
		}
	}
}

// TestPairEnds: P2.3, of the ends of the halves.
func TestPairEnds(t *testing.T) {
	for _, x := range []struct{ hi, lo, want int }{
		{0xD800, 0xDC00, 0x10000}, {0xD800, 0xDFFF, 0x103FF}, {0xD801, 0xDC00, 0x10400}, {0xDBFF, 0xDC00, 0x10FC00}, {0xDBFF, 0xDFFF, 0x10FFFF}, {0xD83D, 0xDE00, 0x1F600},
	} {
		if c, ok := points.Pair(x.hi, x.lo); c != x.want || !ok {
			t.Errorf("%x, %x: %x, %v", x.hi, x.lo, c, ok)
		}
	}
}

// TestPairNone: P2.3, of numbers that are no pair, those among them whose lower bits are a half's.
func TestPairNone(t *testing.T) {
	odd := []int{
		0, 1, 0x61, 0x3FF, -1, -0x2800, -0x2400, -0x2001, 0xD7FF, 0xE000, 0xFFFF, 0x10000, 0x1D800, 0x1DC00, 0x10FFFF, 0x110000,
		1<<32 + 0xD800, 1<<32 + 0xDC00, 1<<40 + 0xD83D, 1<<40 + 0xDE00, math.MinInt + 0xD800, math.MinInt + 0xDC00, math.MinInt, math.MaxInt,
	}
	none := func(hi, lo int) {
		if c, ok := points.Pair(hi, lo); c != 0 || ok {
			t.Errorf("%x, %x: %x, %v", hi, lo, c, ok)
		}
	}
	for _, c := range odd {
		for _, half := range []int{0xD800, 0xD83D, 0xDBFF, 0xDC00, 0xDE00, 0xDFFF} {
			none(c, half)
			none(half, c)
		}
		for _, other := range odd {
			none(c, other)
		}
	}
	none(0xDE00, 0xD83D)
	none(0xD83D, 0xD83D)
	none(0xDE00, 0xDE00)
}

// TestBack: P2.4, of every code point: Of takes its text back, and no other one has it.
func TestBack(t *testing.T) {
	owner := map[string]int{}
	for c := range api.MaxPoint + 1 {
		if !utf8.ValidRune(rune(c)) {
			mute(t, c)
			continue
		}
		s, ok := points.Text(c)
		if !ok || s != string(rune(c)) {
			t.Fatalf("%x: %q, %v", c, s, ok)
		}
		takes(t, s, []int{c})
		if other, is := owner[s]; is {
			t.Fatalf("%x, %x: %q", c, other, s)
		}
		owner[s] = c
	}
}

// rows are rows of code points, of no special kind.
func rows() [][]int {
	l := [][]int{nil, {0}, {0, 0}}
	for i := range spelt {
		var row []int
		for n := range i % 7 {
			row = append(row, spelt[(5*i+11*n)%len(spelt)].c)
		}
		l = append(l, row, append(slices.Clone(row), spelt[i].c))
	}
	return l
}

// TestBehind: P2.4, texts one behind the other have their code points one behind the other.
func TestBehind(t *testing.T) {
	l := rows()
	for _, a := range l {
		for _, b := range l {
			one, _ := points.Text(a...)
			other, _ := points.Text(b...)
			both := append(slices.Clone(a), b...)
			tells(t, one+other, both...)
			takes(t, one+other, both)
			if (one == other) != slices.Equal(a, b) {
				t.Errorf("%x, %x: %q, %q", a, b, one, other)
			}
		}
	}
}
