package scan_test

import (
	"math/big"
	"regexp"
	"slices"
	"strconv"
	"unicode/utf16"

	"tinder/api"
	"tinder/scan"
)

// reading is what a call told, whatever its sort, and the place behind it.
type reading struct {
	p    int
	name string
	ok   bool
	many int
	at   int
}

// model is a scan in the chapter's words: its calls look for a text of bytes, in which one stands for each number.
type model struct {
	points []int
	at     int
}

// rest is what stands behind the place: a number that is no sign of a pattern is a byte that stands for nothing.
func (m *model) rest() string {
	var l []byte
	for _, p := range m.points[m.at:] {
		if p < 0 || p > 127 {
			p = 128
		}
		l = append(l, byte(p))
	}
	return string(l)
}

// read goes on over so many, and tells.
func (m *model) read(n, p int) reading {
	m.at += n
	return reading{p: p, ok: true, at: m.at}
}

func (m *model) none() reading {
	return reading{at: m.at}
}

func (m *model) peek() reading {
	if m.at == len(m.points) {
		return m.none()
	}
	return m.read(0, m.points[m.at])
}

func (m *model) next() reading {
	x := m.peek()
	if x.ok {
		return m.read(1, x.p)
	}
	return x
}

func (m *model) take(text string) reading {
	l := bytesOf(text)
	if len(l) > len(m.points)-m.at || !slices.Equal(m.points[m.at:m.at+len(l)], l) {
		return m.none()
	}
	return m.read(len(l), 0)
}

func (m *model) oneOf(text string) reading {
	if x := m.peek(); x.ok && slices.Contains(bytesOf(text), x.p) {
		return m.next()
	}
	return m.none()
}

var digitsNext = regexp.MustCompile(`^[0-9]*`)

func (m *model) decimal() reading {
	text := digitsNext.FindString(m.rest())
	n, _ := new(big.Int).SetString("0"+text, 10)
	if n.Cmp(big.NewInt(1<<30)) > 0 {
		n = big.NewInt(1 << 30)
	}
	x := m.read(len(text), int(n.Int64()))
	x.many = len(text)
	return x
}

var nameNext = regexp.MustCompile(`^([A-Za-z_$][0-9A-Za-z_$]{0,39})>`)

func (m *model) name() reading {
	l := nameNext.FindStringSubmatch(m.rest())
	if l == nil {
		return m.none()
	}
	x := m.read(len(l[0]), 0)
	x.name = l[1]
	return x
}

// hex is the number of hexadecimal digits, or one that is no code point.
func hex(text string) int {
	n, e := strconv.ParseUint(text, 16, 64)
	if e != nil || n > api.MaxPoint {
		return -1
	}
	return int(n)
}

// rows are the chapter's table: what stands there, of which the first group is read, and the code point of the other groups; -1 of none.
var rows = []struct {
	signs *regexp.Regexp
	point func(l []string) int
}{
	{regexp.MustCompile(`^(f)`), func([]string) int { return 12 }},
	{regexp.MustCompile(`^(n)`), func([]string) int { return 10 }},
	{regexp.MustCompile(`^(r)`), func([]string) int { return 13 }},
	{regexp.MustCompile(`^(t)`), func([]string) int { return 9 }},
	{regexp.MustCompile(`^(v)`), func([]string) int { return 11 }},
	{regexp.MustCompile(`^(c([a-zA-Z]))`), func(l []string) int { return int(l[2][0]) % 32 }},
	{regexp.MustCompile(`^(0)(?:[^0-9]|\z)`), func([]string) int { return 0 }},
	{regexp.MustCompile(`^(x([0-9a-fA-F]{2}))`), func(l []string) int { return hex(l[2]) }},
	{regexp.MustCompile(`^(u\{([0-9a-fA-F]+)\})`), func(l []string) int { return hex(l[2]) }},
	{regexp.MustCompile(`^(u([0-9a-fA-F]{4})\\u([0-9a-fA-F]{4}))`), func(l []string) int {
		if c := utf16.DecodeRune(rune(hex(l[2])), rune(hex(l[3]))); c != 0xFFFD {
			return int(c)
		}
		return -1
	}},
	{regexp.MustCompile(`^(u([0-9a-fA-F]{4}))`), func(l []string) int { return hex(l[2]) }},
	{regexp.MustCompile(`^([\^$\\.*+?()\[\]{}|/])`), func(l []string) int { return int(l[1][0]) }},
}

func (m *model) escape() reading {
	text := m.rest()
	for _, row := range rows {
		l := row.signs.FindStringSubmatch(text)
		if l == nil {
			continue
		}
		if c := row.point(l); c >= 0 {
			return m.read(len(l[1]), c)
		}
	}
	return m.none()
}

// call is one of a scan's calls, and what the chapter says of it.
type call struct {
	of   string
	text string
}

// calls are all that read, with some texts.
func calls() []call {
	l := []call{{of: "Peek"}, {of: "Next"}, {of: "Decimal"}, {of: "Escape"}, {of: "Name"}}
	for _, text := range []string{"", "u", "a", "\\", "\\u", "ab", "{", "x4", "0", ">", "\x80", "\xC3\xA9", "a>"} {
		l = append(l, call{"Take", text}, call{"Any", text})
	}
	return l
}

func (c call) asks(s *scan.Scan) reading {
	var x reading
	switch c.of {
	case "Peek":
		x.p, x.ok = s.Peek()
	case "Next":
		x.p, x.ok = s.Next()
	case "Take":
		x.ok = s.Take(c.text)
	case "Any":
		x.p, x.ok = s.Any(c.text)
	case "Decimal":
		x.p, x.many = s.Decimal()
		x.ok = true
	case "Escape":
		x.p, x.ok = s.Escape()
	case "Name":
		x.name, x.ok = s.Name()
	}
	x.at = s.At()
	return x
}

func (c call) means(m *model) reading {
	switch c.of {
	case "Peek":
		return m.peek()
	case "Next":
		return m.next()
	case "Take":
		return m.take(c.text)
	case "Any":
		return m.oneOf(c.text)
	case "Decimal":
		return m.decimal()
	case "Escape":
		return m.escape()
	}
	return m.name()
}
