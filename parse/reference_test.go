package parse_test

import (
	"fmt"
	"reflect"
	"regexp"
	"slices"
	"strconv"
	"strings"
	"testing"
	"unicode/utf8"

	"tinder/api"
	"tinder/class"
	"tinder/fold"
	"tinder/parse"
	"tinder/points"
	"tinder/scan"
)

// part is what a node covers, in the chapter's words: its kids hang below it.
type part struct {
	node api.Node
	kids []*part
	// Of a group its place and name, of what refers to one all but the node.
	place int
	name  string
	num   int
}

// refused is an error, and its place.
type refused struct {
	at int
	e  api.Errno
}

// model is a right text, and what its meaning hangs on. Places in it are bytes, until they are told.
type model struct {
	text   string
	flags  api.Flags
	t      api.Tables
	groups int
}

// row is one of the table of terms: the signs that it begins with, and what reads the whole of it, these being its pieces.
type row struct {
	signs   *regexp.Regexp
	read    func(m *model, at int, pieces []string) (p *part, behind int, no *refused)
	repeats bool
}

const nameText = `([A-Za-z_$][A-Za-z0-9_$]{0,39})>`

// rows are the table of terms, and what may stand in no row.
func rows() []row {
	return []row{
		{regexp.MustCompile(`^(\^|\$|\\b|\\B)`), readSpot, false},
		{regexp.MustCompile(`^\(\?(=|!|<=|<!)`), readLook, false},
		{regexp.MustCompile(`^\(\?:`), readInner, true},
		{regexp.MustCompile(`^\(\?>`), readAtomic, true},
		{regexp.MustCompile(`^\(\?<` + nameText), readGroup, true},
		{regexp.MustCompile(`^\(\?<`), no(api.ErrName), true},
		{regexp.MustCompile(`^\(\?`), no(api.ErrSyntax), true},
		{regexp.MustCompile(`^\(`), readGroup, true},
		{regexp.MustCompile(`^\.`), readDot, true},
		{regexp.MustCompile(`^\[`), readBrackets, true},
		{regexp.MustCompile(`^\\[dDsSwWpP]`), readSet, true},
		{regexp.MustCompile(`^\\k<` + nameText), readName, true},
		{regexp.MustCompile(`^\\k`), no(api.ErrName), true},
		{regexp.MustCompile(`^\\([1-9][0-9]*)`), readNumber, true},
		{regexp.MustCompile(`^\\`), readEscape, true},
		{regexp.MustCompile(`^[*+?{}\]]`), no(api.ErrSyntax), true},
		{regexp.MustCompile(`(?s)^(.)`), readSign, true},
	}
}

var allRows []row

func init() {
	allRows = rows()
}

var (
	ends    = regexp.MustCompile(`^([|)]|$)`)
	repeats = regexp.MustCompile(`^(?:([*+?])|\{([0-9]+)(,?)\}|\{([0-9]+),([0-9]+)\})([?+]?)`)
)

func (m *model) refuse(at int, e api.Errno) *refused {
	return &refused{utf8.RuneCountInString(m.text[:at]), e}
}

func no(e api.Errno) func(m *model, at int, pieces []string) (*part, int, *refused) {
	return func(m *model, at int, pieces []string) (*part, int, *refused) {
		return nil, 0, m.refuse(at, e)
	}
}

func readSpot(m *model, at int, pieces []string) (*part, int, *refused) {
	kind := map[string]api.SpotKind{"^": api.SpotStart, "$": api.SpotEnd, `\b`: api.SpotWord, `\B`: api.SpotInner}[pieces[1]]
	return &part{node: api.Node{Kind: api.NodeSpot, Spot: kind}}, at + len(pieces[0]), nil
}

// readInner is a choice behind some signs, and the ) behind it.
func readInner(m *model, at int, pieces []string) (*part, int, *refused) {
	p, behind, no := m.choice(at + len(pieces[0]))
	if no == nil && !strings.HasPrefix(m.text[behind:], ")") {
		no = m.refuse(at, api.ErrSyntax)
	}
	return p, behind + 1, no
}

// readBelow is a node above a choice.
func readBelow(m *model, at int, pieces []string, p *part) (*part, int, *refused) {
	kid, behind, no := readInner(m, at, pieces)
	p.kids = []*part{kid}
	return p, behind, no
}

func readLook(m *model, at int, pieces []string) (*part, int, *refused) {
	n := api.Node{Kind: api.NodeAhead, Not: strings.HasSuffix(pieces[1], "!")}
	if pieces[1][0] == '<' {
		n.Kind = api.NodeBehind
	}
	return readBelow(m, at, pieces, &part{node: n})
}

func readAtomic(m *model, at int, pieces []string) (*part, int, *refused) {
	return readBelow(m, at, pieces, &part{node: api.Node{Kind: api.NodeAtomic}})
}

func readGroup(m *model, at int, pieces []string) (*part, int, *refused) {
	m.groups++
	if m.groups == 21 {
		return nil, 0, m.refuse(at, api.ErrGroup)
	}
	p := &part{node: api.Node{Kind: api.NodeGroup}, place: utf8.RuneCountInString(m.text[:at])}
	if len(pieces) > 1 {
		p.name = pieces[1]
	}
	return readBelow(m, at, pieces, p)
}

// readOf is a node that is a set.
func (m *model) readOf(at, behind int, set []api.Range) (*part, int, *refused) {
	if len(set) > 2000 {
		return nil, 0, m.refuse(at, api.ErrLong)
	}
	return &part{node: api.Node{Kind: api.NodeSet, Set: set}}, behind, nil
}

// readOne is a node that is one code point, and with Fold what is alike.
func (m *model) readOne(at, behind, c int) (*part, int, *refused) {
	return m.readOf(at, behind, m.alike(c))
}

func (m *model) alike(c int) []api.Range {
	row := []int{c}
	if m.flags.Fold && fold.Right(m.t) {
		canon := c
		for _, f := range m.t.Folds {
			if f.From == c {
				canon = f.To
			}
		}
		row = append(row, canon)
		for _, f := range m.t.Folds {
			if f.To == canon {
				row = append(row, f.From)
			}
		}
	}
	slices.Sort(row)
	var set []api.Range
	for _, c := range slices.Compact(row) {
		if n := len(set); n > 0 && set[n-1].Hi == c-1 {
			set[n-1].Hi = c
		} else {
			set = append(set, api.Range{Lo: c, Hi: c})
		}
	}
	return set
}

func readDot(m *model, at int, pieces []string) (*part, int, *refused) {
	set := of(0, 9, 11, 12, 14, 0x2027, 0x202A, top)
	if m.flags.All {
		set = of(0, top)
	}
	return m.readOf(at, at+1, set)
}

// from is a scan of what stands from a byte on.
func (m *model) from(at int) *scan.Scan {
	row, _, _ := points.Of(m.text[at:])
	return scan.New(row...)
}

// behind is the byte so many code points behind another one.
func (m *model) behind(at, many int) int {
	for range many {
		_, n := utf8.DecodeRuneInString(m.text[at:])
		at += n
	}
	return at
}

func readBrackets(m *model, at int, pieces []string) (*part, int, *refused) {
	s := m.from(at + 1)
	set, e := class.Read(s, m.flags, m.t)
	if e != api.OK {
		return nil, 0, m.refuse(at, e)
	}
	return m.readOf(at, m.behind(at+1, s.At()), set)
}

func readSet(m *model, at int, pieces []string) (*part, int, *refused) {
	s := m.from(at + 1)
	set, _, e := class.Escape(s, m.flags, m.t)
	if e != api.OK {
		return nil, 0, m.refuse(at, e)
	}
	return m.readOf(at, m.behind(at+1, s.At()), set)
}

func readEscape(m *model, at int, pieces []string) (*part, int, *refused) {
	s := m.from(at + 1)
	c, is := s.Escape()
	if !is {
		return nil, 0, m.refuse(at, api.ErrSyntax)
	}
	return m.readOne(at, m.behind(at+1, s.At()), c)
}

func readSign(m *model, at int, pieces []string) (*part, int, *refused) {
	c, n := utf8.DecodeRuneInString(pieces[1])
	return m.readOne(at, at+n, int(c))
}

func readName(m *model, at int, pieces []string) (*part, int, *refused) {
	place := utf8.RuneCountInString(m.text[:at])
	return &part{node: api.Node{Kind: api.NodeBack}, name: pieces[1], place: place}, at + len(pieces[0]), nil
}

func readNumber(m *model, at int, pieces []string) (*part, int, *refused) {
	n, err := strconv.Atoi(pieces[1])
	if err != nil {
		n = 1 << 30
	}
	place := utf8.RuneCountInString(m.text[:at])
	return &part{node: api.Node{Kind: api.NodeBack}, num: min(n, 1<<30), place: place}, at + len(pieces[0]), nil
}

// term is the term at a byte, in the first row that fits.
func (m *model) term(at int) (*part, int, *refused) {
	for _, r := range allRows {
		pieces := r.signs.FindStringSubmatch(m.text[at:])
		if pieces == nil {
			continue
		}
		p, behind, no := r.read(m, at, pieces)
		if no != nil || !r.repeats {
			return p, behind, no
		}
		return m.repeated(p, behind)
	}
	panic("no row fits")
}

// count is a number of digits, or some greater one than may be.
func count(digits string) int {
	digits = strings.TrimLeft(digits, "0")
	if len(digits) > 4 {
		return 9999
	}
	n, _ := strconv.Atoi("0" + digits)
	return n
}

// repeated is a term, with what stands behind it.
func (m *model) repeated(p *part, at int) (*part, int, *refused) {
	l := repeats.FindStringSubmatch(m.text[at:])
	if l == nil {
		if strings.HasPrefix(m.text[at:], "{") {
			return nil, 0, m.refuse(at, api.ErrSyntax)
		}
		return p, at, nil
	}
	n := api.Node{Kind: api.NodeRepeat, Max: -1, Mode: map[string]api.ModeKind{"": api.ModeGreedy, "?": api.ModeLazy, "+": api.ModeOwn}[l[6]]}
	switch {
	case l[1] == "+":
		n.Min = 1
	case l[1] == "?":
		n.Max = 1
	case l[3] == ",":
		n.Min = count(l[2])
	case l[2] != "":
		n.Min, n.Max = count(l[2]), count(l[2])
	case l[4] != "":
		n.Min, n.Max = count(l[4]), count(l[5])
	}
	if n.Min > 1000 || n.Max > 1000 {
		return nil, 0, m.refuse(at, api.ErrSize)
	}
	if n.Max >= 0 && n.Min > n.Max {
		return nil, 0, m.refuse(at, api.ErrOrder)
	}
	return &part{node: n, kids: []*part{p}}, at + len(l[0]), nil
}

// sequence is all terms from a byte on.
func (m *model) sequence(at int) (*part, int, *refused) {
	p := &part{node: api.Node{Kind: api.NodeSeq}}
	for !ends.MatchString(m.text[at:]) {
		kid, behind, no := m.term(at)
		if no != nil {
			return nil, 0, no
		}
		p.kids = append(p.kids, kid)
		at = behind
	}
	switch len(p.kids) {
	case 0:
		return &part{node: api.Node{Kind: api.NodeEmpty}}, at, nil
	case 1:
		return p.kids[0], at, nil
	}
	return p, at, nil
}

// choice is all sequences from a byte on, with | between.
func (m *model) choice(at int) (*part, int, *refused) {
	first, at, no := m.sequence(at)
	p := &part{node: api.Node{Kind: api.NodeAlt}, kids: []*part{first}}
	for no == nil && strings.HasPrefix(m.text[at:], "|") {
		first, at, no = m.sequence(at + 1)
		p.kids = append(p.kids, first)
	}
	if len(p.kids) == 1 {
		return p.kids[0], at, no
	}
	return p, at, no
}

func (p *part) deep() int {
	deepest := 0
	for _, kid := range p.kids {
		deepest = max(deepest, kid.deep())
	}
	return deepest + 1
}

// laid lays a part and all below it behind a tree's nodes, and tells which groups there are, by their places.
func (p *part) laid(r *parse.Raw, groups map[int]string) {
	n := p.node
	for _, kid := range p.kids {
		kid.laid(r, groups)
		n.Kids = append(n.Kids, len(r.Tree.Nodes)-1)
	}
	if n.Kind == api.NodeBack {
		r.Refs = append(r.Refs, parse.Ref{Node: len(r.Tree.Nodes), Num: p.num, At: p.place, Name: p.name})
	}
	if n.Kind == api.NodeGroup {
		groups[p.place] = p.name
		// Numbered when all places are known.
		n.Group = p.place
	}
	r.Tree.Nodes = append(r.Tree.Nodes, n)
}

// raw is the part as it is told.
func (p *part) raw() parse.Raw {
	r, groups := parse.Raw{}, map[int]string{}
	p.laid(&r, groups)
	for place := range groups {
		r.Places = append(r.Places, place)
	}
	slices.Sort(r.Places)
	for _, place := range r.Places {
		r.Tree.Names = append(r.Tree.Names, groups[place])
	}
	for i, n := range r.Tree.Nodes {
		if n.Kind == api.NodeGroup {
			r.Tree.Nodes[i].Group = slices.Index(r.Places, n.Group) + 1
		}
	}
	return r
}

// modelRead is what Read tells, in the chapter's words.
func modelRead(text string, flags api.Flags, t api.Tables) (parse.Raw, int, api.Errno) {
	if _, at, e := points.Of(text); e != api.OK {
		return parse.Raw{}, at, e
	}
	if utf8.RuneCountInString(text) > 2000 {
		return parse.Raw{}, 0, api.ErrLong
	}
	m := &model{text: text, flags: flags, t: t}
	p, behind, no := m.choice(0)
	if no == nil && behind < len(text) {
		no = m.refuse(behind, api.ErrSyntax)
	}
	if no == nil && p.deep() > 60 {
		no = m.refuse(0, api.ErrDepth)
	}
	if no != nil {
		return parse.Raw{}, no.at, no.e
	}
	return p.raw(), 0, api.OK
}

// bare is a pattern in which no list without elements is told from a nil one.
func bare(r parse.Raw) parse.Raw {
	out := parse.Raw{Refs: listed(r.Refs), Places: listed(r.Places), Tree: api.Tree{Names: listed(r.Tree.Names)}}
	for _, n := range r.Tree.Nodes {
		n.Set, n.Kids = listed(n.Set), listed(n.Kids)
		out.Tree.Nodes = append(out.Tree.Nodes, n)
	}
	return out
}

func listed[E any](l []E) []E {
	if len(l) == 0 {
		return nil
	}
	return l
}

// alike fails unless Read tells what the chapter's words say.
func alike(t testing.TB, text string, flags api.Flags, x api.Tables) (parse.Raw, int, api.Errno) {
	t.Helper()
	r, at, e := parse.Read(text, flags, x)
	want, wantAt, wantE := modelRead(text, flags, x)
	if at != wantAt || e != wantE {
		t.Fatalf("%q, %v: %v at %d; want %v at %d", text, flags, e, at, wantE, wantAt)
	}
	if e != api.OK && !reflect.DeepEqual(r, parse.Raw{}) {
		t.Fatalf("%q, %v: %v, and %s", text, flags, e, shown(r))
	}
	if got, want := bare(r), bare(want); !reflect.DeepEqual(got, want) {
		t.Fatalf("%q, %v:\n%s; want\n%s", text, flags, fmt.Sprintf("%+v", got), fmt.Sprintf("%+v", want))
	}
	return r, at, e
}
