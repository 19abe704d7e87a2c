package class_test

import (
	"regexp"
	"slices"
	"testing"

	"tinder/api"
	"tinder/class"
	"tinder/fold"
	"tinder/scan"
)

// members says of a code point whether a set has it.
type members func(c int) bool

// in is what ranges have, in any order.
func in(l []api.Range) members {
	return func(c int) bool {
		return slices.ContainsFunc(l, func(r api.Range) bool { return r.Lo <= c && c <= r.Hi })
	}
}

// model is code points and what their meaning hangs on, in the chapter's words.
type model struct {
	points []int
	flags  api.Flags
	t      api.Tables
	// The numbers that anything here begins with, and those behind anything's end: between two of them all sets are the same.
	starts []int
}

func modelOf(points []int, flags api.Flags, t api.Tables) *model {
	if !fold.Right(t) {
		t = api.Tables{}
	}
	m := &model{points: points, flags: flags, t: t}
	m.start(0, top+1)
	for _, set := range [][]api.Range{digits, spaces, words} {
		m.startRanges(set)
	}
	for _, p := range t.Props {
		m.startRanges(p.Set)
	}
	for _, f := range t.Folds {
		m.start(f.From, f.From+1, f.To, f.To+1)
	}
	return m
}

func (m *model) start(l ...int) {
	for _, c := range l {
		m.starts = append(m.starts, max(0, min(c, top+1)))
	}
}

func (m *model) startRanges(set []api.Range) {
	for _, r := range set {
		m.start(r.Lo, r.Hi+1)
	}
}

// text is what stands from a place on: a number that is no sign of a pattern is a byte that stands for nothing.
func (m *model) text(at int) string {
	var l []byte
	for _, p := range m.points[min(at, len(m.points)):] {
		if p < 0 || p > 127 {
			p = 128
		}
		l = append(l, byte(p))
	}
	return string(l)
}

// stands says whether a text of signs stands at a place.
func (m *model) stands(at int, text string) bool {
	rest := m.text(at)
	return len(rest) >= len(text) && rest[:len(text)] == text
}

func (m *model) canon(c int) int {
	for _, f := range m.t.Folds {
		if f.From == c {
			return f.To
		}
	}
	return c
}

// closed is all that is alike one that is had: only what a fold names is alike another one.
func (m *model) closed(has members) members {
	return func(c int) bool {
		return has(c) || slices.ContainsFunc(m.t.Folds, func(f api.Fold) bool {
			return m.canon(c) == f.To && (has(f.From) || has(f.To))
		})
	}
}

// folded is what is had, with the flag Fold closed.
func (m *model) folded(has members) members {
	if m.flags.Fold {
		return m.closed(has)
	}
	return has
}

// set is the only set of those code points that are had.
func (m *model) set(has members) []api.Range {
	starts := slices.Clone(m.starts)
	slices.Sort(starts)
	starts = slices.Compact(starts)
	var l []api.Range
	for i, c := range starts[:len(starts)-1] {
		if n := len(l); has(c) && n > 0 && l[n-1].Hi == c-1 {
			l[n-1].Hi = starts[i+1] - 1
		} else if has(c) {
			l = append(l, api.Range{Lo: c, Hi: starts[i+1] - 1})
		}
	}
	return l
}

// answer is what was read: a part, or a set's escape. One that is one number has that.
type answer struct {
	has    members
	is     bool
	e      api.Errno
	at     int
	number int
	one    bool
}

var (
	signNext  = regexp.MustCompile(`^[dDsSwWpP]`)
	nameNext  = regexp.MustCompile(`^\{([a-zA-Z0-9_=]{1,40})\}`)
	nameBegun = regexp.MustCompile(`^(\{[a-zA-Z0-9_=]{0,40})?`)
)

// escape is the set's escape at a place.
func (m *model) escape(at int) answer {
	sign := signNext.FindString(m.text(at))
	if sign == "" {
		return answer{at: at}
	}
	x := answer{is: true, at: at + 1}
	small := members(nil)
	switch sign {
	case "d", "D":
		small = in(digits)
	case "s", "S":
		small = in(spaces)
	case "w", "W":
		small = m.folded(in(words))
	default:
		name := nameNext.FindStringSubmatch(m.text(x.at))
		if name == nil {
			x.at += len(nameBegun.FindString(m.text(x.at)))
			x.e = api.ErrSyntax
			return x
		}
		x.at += len(name[0])
		k := slices.IndexFunc(m.t.Props, func(p api.Prop) bool { return p.Name == name[1] })
		if k < 0 {
			x.e = api.ErrName
			return x
		}
		small = in(m.t.Props[k].Set)
	}
	x.has = m.folded(small)
	if sign < "a" {
		x.has = m.folded(func(c int) bool { return !small(c) })
	}
	return x
}

// one is a part that is one number.
func (m *model) one(c, at int) answer {
	m.start(c)
	if c < top {
		m.start(c + 1)
	}
	return answer{has: func(d int) bool { return c == d }, number: c, one: true, at: at}
}

// part is the part at a place.
func (m *model) part(at int) answer {
	switch {
	case at == len(m.points):
		return answer{e: api.ErrSyntax, at: at}
	case m.points[at] != '\\':
		return m.one(m.points[at], at+1)
	case m.stands(at, `\b`):
		return m.one(8, at+2)
	case m.stands(at, `\-`):
		return m.one(45, at+2)
	}
	if x := m.escape(at + 1); x.is {
		return x
	}
	s := scan.New(m.points[at+1:]...)
	if c, is := s.Escape(); is {
		return m.one(c, at+1+s.At())
	}
	return answer{e: api.ErrSyntax, at: at + 1}
}

// item is the part or the range at a place.
func (m *model) item(at int) answer {
	a := m.part(at)
	if a.e != api.OK || !m.stands(a.at, "-") || m.stands(a.at, "-]") {
		return a
	}
	b := m.part(a.at + 1)
	switch {
	case b.e != api.OK:
		return b
	case !a.one || !b.one:
		b.e = api.ErrSyntax
	case a.number > b.number:
		b.e = api.ErrOrder
	}
	b.has = func(c int) bool { return a.number <= c && c <= b.number }
	return b
}

// brackets is what stands in brackets, from a place on.
func (m *model) brackets(at int) (set []api.Range, e api.Errno, behind int) {
	others := m.stands(at, "^")
	if others {
		at++
	}
	var all []members
	for !m.stands(at, "]") {
		x := m.item(at)
		if x.e != api.OK {
			return nil, x.e, x.at
		}
		all = append(all, x.has)
		at = x.at
	}
	has := m.folded(func(c int) bool {
		return slices.ContainsFunc(all, func(has members) bool { return has(c) })
	})
	set = m.set(func(c int) bool { return has(c) != others })
	if len(set) > 2000 {
		return nil, api.ErrLong, at + 1
	}
	return set, api.OK, at + 1
}

// behind is a scan that stands at a place.
func behind(points []int, at int) *scan.Scan {
	s := scan.New(points...)
	for range at {
		s.Next()
	}
	return s
}

// reads fails unless Read tells what the chapter's words say, from a place on, and what it leaves is as it was.
func reads(t *testing.T, points []int, at int, flags api.Flags, x api.Tables) api.Errno {
	t.Helper()
	want, wantE, wantAt := modelOf(points, flags, x).brackets(at)
	s := behind(points, at)
	set, e := class.Read(s, flags, x)
	if e != wantE || !slices.Equal(set, want) || s.At() != wantAt {
		t.Fatalf("%q %x from %d on, %v: %x, %v, at %d; want %x, %v, at %d", textOf(points), points, at, flags, set, e, s.At(), want, wantE, wantAt)
	}
	left(t, s, points)
	return e
}

// escapes fails unless Escape tells what the chapter's words say, from a place on.
func escapes(t *testing.T, points []int, at int, flags api.Flags, x api.Tables) {
	t.Helper()
	m := modelOf(points, flags, x)
	want := m.escape(at)
	var wantSet []api.Range
	if want.is && want.e == api.OK {
		wantSet = m.set(want.has)
	}
	s := behind(points, at)
	set, is, e := class.Escape(s, flags, x)
	if e != want.e || is != want.is || !slices.Equal(set, wantSet) || s.At() != want.at {
		t.Fatalf("%q %x from %d on, %v: %x, %v, %v, at %d; want %x, %v, %v, at %d", textOf(points), points, at, flags, set, is, e, s.At(), wantSet, want.is, want.e, want.at)
	}
	left(t, s, points)
}

// left fails unless what a scan has not read is the rest of its numbers.
func left(t *testing.T, s *scan.Scan, points []int) {
	t.Helper()
	walk := s.Copy()
	for _, want := range points[s.At():] {
		if c, is := walk.Next(); c != want || !is {
			t.Fatal(points, s.At(), c, is)
		}
	}
	if !walk.Done() {
		t.Fatal(points, s.At())
	}
}
