package class_test

import (
	"math"
	"math/rand"
	"slices"
	"strings"
	"testing"

	"tinder/api"
	"tinder/class"
	"tinder/scan"
)

// brackets fails unless Read tells that, and stands at that place behind it, whatever stands ahead of it and behind.
func brackets(t *testing.T, points []int, flags api.Flags, want []api.Range, e api.Errno, at int) {
	t.Helper()
	for _, ahead := range [][]int{nil, {'['}, signs("\\^a-"), odd} {
		s := behind(append(slices.Clone(ahead), points...), len(ahead))
		set, got := class.Read(s, flags, letters())
		if !slices.Equal(set, want) || got != e || s.At() != len(ahead)+at {
			t.Errorf("%q, %v: %x, %v, at %d; want %x, %v, at %d", textOf(points), flags, set, got, s.At()-len(ahead), want, e, at)
		}
	}
}

// stand fails unless a text stands in brackets, to its end, and is that set, and with ^ all others; and with whatever behind it.
func stand(t *testing.T, text string, flags api.Flags, ends ...int) {
	t.Helper()
	l, want := signs(text), of(ends...)
	brackets(t, l, flags, want, api.OK, len(l))
	brackets(t, append(l, ']', '\\', -1), flags, want, api.OK, len(l))
	if text[0] != '^' {
		brackets(t, signs("^"+text), flags, others(want), api.OK, len(l)+1)
	}
}

// others is all that a set does not have.
func others(set []api.Range) []api.Range {
	var l []api.Range
	next := 0
	for _, r := range append(slices.Clone(set), api.Range{Lo: top + 1}) {
		if next < r.Lo {
			l = append(l, api.Range{Lo: next, Hi: r.Lo - 1})
		}
		next = r.Hi + 1
	}
	return l
}

// fails fails unless a text is refused at that place, with whatever behind it.
func fails(t *testing.T, text string, e api.Errno, at int) {
	t.Helper()
	for _, flags := range allFlags() {
		brackets(t, signs(text), flags, nil, e, at)
		brackets(t, signs("^"+text), flags, nil, e, at+1)
		if at < len(text) || e != api.ErrSyntax {
			brackets(t, append(signs(text), signs("]\\-]")...), flags, nil, e, at)
		}
	}
}

// TestParts: P8.2, parts of each sort, in any order.
func TestParts(t *testing.T) {
	stand(t, "]", bare)
	stand(t, "a]", bare, 'a', 'a')
	stand(t, "abc]", bare, 'a', 'c')
	stand(t, "cba]", bare, 'a', 'c')
	stand(t, "aaa]", bare, 'a', 'a')
	stand(t, "[a[]", bare, '[', '[', 'a', 'a')
	stand(t, "a^]", bare, '^', '^', 'a', 'a')
	stand(t, "{}()|.*+?/$]", bare, '$', '$', '(', '+', '.', '/', '?', '?', '{', '}')
	stand(t, "\\b]", bare, 8, 8)
	stand(t, "\\-]", bare, '-', '-')
	stand(t, "\\]\\\\\\[\\^]", bare, '[', '^')
	stand(t, "\\f\\n\\r\\t\\v\\0]", bare, 0, 0, 9, 13)
	stand(t, "\\cA\\x41\\u0042\\u{43}\\uD83D\\uDE00]", bare, 1, 1, 'A', 'C', 0x1F600, 0x1F600)
	stand(t, "\\u{D83D}\\u{DE00}]", bare, 0xD83D, 0xD83D, 0xDE00, 0xDE00)
	stand(t, "\\d]", bare, '0', '9')
	stand(t, "\\D\\d]", bare, 0, top)
	stand(t, "\\S\\s]", bare, 0, top)
	stand(t, "\\w\\W]", bare, 0, top)
	stand(t, "\\p{Lu}\\P{Lu}]", bare, 0, top)
	stand(t, "\\p{None}]", bare)
	stand(t, "\\p{E}\\d_\\b]", bare, 8, 8, '0', '9', '_', '_', 0x1F600, 0x1F64F)
	stand(t, "\\bb\\dd\\-]", bare, 8, 8, '-', '-', '0', '9', 'b', 'b', 'd', 'd')
	stand(t, "\n\t \x00]", bare, 0, 0, 9, 10, 32, 32)
	// More digits behind \x and \u, more signs behind a name, are parts of their own.
	stand(t, "\\x412]", bare, '2', '2', 'A', 'A')
	stand(t, "\\u00412}]", bare, '2', '2', 'A', 'A', '}', '}')
	stand(t, "\\p{=}}]", bare, '=', '=', '}', '}')
}

// TestOthers: P8.2, ^ is for all others just where it stands first.
func TestOthers(t *testing.T) {
	stand(t, "^]", bare, 0, top)
	stand(t, "^^]", bare, 0, '^'-1, '^'+1, top)
	stand(t, "^^^]", bare, 0, '^'-1, '^'+1, top)
	stand(t, "^-]", bare, 0, '-'-1, '-'+1, top)
	stand(t, "^-^]", bare, 0, '-'-1, '-'+1, '^'-1, '^'+1, top)
	stand(t, "^\\n]", bare, 0, 9, 11, top)
	stand(t, "\\^]", bare, '^', '^')
	stand(t, "-^]", bare, '-', '-', '^', '^')
	stand(t, "a^-z]", bare, '^', 'z')
	stand(t, "\\^-a]", bare, '^', 'a')
	stand(t, "^\\p{All}]", bare)
	stand(t, "^\\0-\\u{10FFFF}]", bare)
	stand(t, "^\\0-\\u{10FFFE}]", bare, top, top)
	stand(t, "^\\x01-\\u{10FFFF}]", bare, 0, 0)
	stand(t, "^\\p{"+name40+"}]", bare, 1, top-1)
}

// TestDashes: P8.2, a - first, last, behind ^, behind a range, between a part and ], on both sides of a range.
func TestDashes(t *testing.T) {
	stand(t, "-]", bare, '-', '-')
	stand(t, "--]", bare, '-', '-')
	stand(t, "---]", bare, '-', '-')
	stand(t, "----]", bare, '-', '-')
	stand(t, "-----]", bare, '-', '-')
	stand(t, "-a]", bare, '-', '-', 'a', 'a')
	stand(t, "a-]", bare, '-', '-', 'a', 'a')
	stand(t, "a\\-c]", bare, '-', '-', 'a', 'a', 'c', 'c')
	stand(t, "a-c]", bare, 'a', 'c')
	stand(t, "a-c-]", bare, '-', '-', 'a', 'c')
	stand(t, "a-c-e]", bare, '-', '-', 'a', 'c', 'e', 'e')
	stand(t, "a-c-e-g]", bare, '-', '-', 'a', 'c', 'e', 'g')
	stand(t, "a-ce-g]", bare, 'a', 'c', 'e', 'g')
	stand(t, "a-c\\-e]", bare, '-', '-', 'a', 'c', 'e', 'e')
	stand(t, "--a]", bare, '-', 'a')
	stand(t, "\\--a]", bare, '-', 'a')
	stand(t, "+--]", bare, '+', '-')
	stand(t, "+-\\-]", bare, '+', '-')
	stand(t, "a-c--e]", bare, '-', 'e')
	stand(t, "\\d-]", bare, '-', '-', '0', '9')
	stand(t, "-\\d]", bare, '-', '-', '0', '9')
	stand(t, "\\p{Lu}-]", bare, '-', '-', 'A', 'Z')
	stand(t, "a-c-\\d]", bare, '-', '-', '0', '9', 'a', 'c')
	stand(t, "\\]-]", bare, '-', '-', ']', ']')
	stand(t, "[-]", bare, '-', '-', '[', '[')
	stand(t, "[-\\]]", bare, '[', ']')
	stand(t, "\\b-]", bare, 8, 8, '-', '-')
	brackets(t, signs("a-]-z]"), bare, of('-', '-', 'a', 'a'), api.OK, 3)
	brackets(t, signs("]-]"), bare, nil, api.OK, 1)
	brackets(t, signs("a]]"), bare, of('a', 'a'), api.OK, 2)
	brackets(t, signs("^]-]"), bare, of(0, top), api.OK, 2)
}

// TestRanges: P8.2, ranges of one number, of both ends of all code points, by escapes, one in the other.
func TestRanges(t *testing.T) {
	stand(t, "a-a]", bare, 'a', 'a')
	stand(t, "\\0-\\0]", bare, 0, 0)
	stand(t, "\\u{10FFFF}-\\u{10FFFF}]", bare, top, top)
	stand(t, "\\0-\\u{10FFFF}]", bare, 0, top)
	stand(t, "\\b-\\n]", bare, 8, 10)
	stand(t, "\\x08-\\b]", bare, 8, 8)
	stand(t, "\\b-b]", bare, 8, 'b')
	stand(t, "\\cA-\\cZ]", bare, 1, 26)
	stand(t, "\\uD83D-\\uDE00]", bare, 0xD83D, 0xDE00)
	stand(t, "a-\\uD83D\\uDE00]", bare, 'a', 0x1F600)
	stand(t, "a-zc-d]", bare, 'a', 'z')
	stand(t, "c-da-z]", bare, 'a', 'z')
	stand(t, "a-cb-d]", bare, 'a', 'd')
	stand(t, "a-cd-f]", bare, 'a', 'f')
	stand(t, "a-c-c-e]", bare, '-', '-', 'a', 'e')
	stand(t, "0-9\\d5]", bare, '0', '9')
	stand(t, "-z]", bare, '-', '-', 'z', 'z')
	brackets(t, []int{0, '-', top, ']'}, bare, of(0, top), api.OK, 4)
	brackets(t, []int{top, '-', top, ']'}, bare, of(top, top), api.OK, 4)
	brackets(t, []int{0xD800, '-', 0xDFFF, ']'}, bare, of(0xD800, 0xDFFF), api.OK, 4)
}

// TestFolded: P8.2, with the flag Fold all is closed, ahead of ^.
func TestFolded(t *testing.T) {
	stand(t, "A]", withFold, 'A', 'A', 'a', 'a')
	stand(t, "a]", withFold, 'A', 'A', 'a', 'a')
	stand(t, "k]", withFold, 'K', 'K', 'k', 'k', 0x212A, 0x212A)
	stand(t, "K]", withFold, 'K', 'K', 'k', 'k', 0x212A, 0x212A)
	stand(t, "\\u212A]", withFold, 'K', 'K', 'k', 'k', 0x212A, 0x212A)
	stand(t, "b]", withFold, 'b', 'b')
	stand(t, "r-t]", withFold, 'S', 'S', 'r', 't', 0x17F, 0x17F)
	stand(t, "\\d]", withFold, '0', '9', 0xFF10, 0xFF10)
	stand(t, "\\D]", withFold, 0, '0', '9'+1, top)
	stand(t, "\\D\\d]", withFold, 0, top)
	stand(t, "^\\D]", withFold, '1', '9')
	stand(t, "^\\P{Lu}]", withFold, 'B', 'J', 'L', 'R', 'T', 'Z')
	stand(t, "\\p{Lu}]", withFold, 'A', 'Z', 'a', 'a', 'k', 'k', 's', 's', 0x17F, 0x17F, 0x212A, 0x212A)
	stand(t, "\\uFF10]", withFold, '0', '0', 0xFF10, 0xFF10)
	stand(t, "^\\W]", withFold, '0', '9', 'A', 'Z', '_', '_', 'a', 'z', 0x17F, 0x17F, 0x212A, 0x212A, 0xFF10, 0xFF10)
	stand(t, "^\\W]", bare, '0', '9', 'A', 'Z', '_', '_', 'a', 'z')
	for _, flags := range allFlags() {
		if flags.Fold {
			stand(t, "^!]", flags, 0, 32, 34, 0x9F, 0xA1, top)
		} else {
			stand(t, "^!]", flags, 0, 32, 34, top)
		}
	}
}

// TestExample: the chapter's example.
func TestExample(t *testing.T) {
	stand(t, "a-c-]", bare, '-', '-', 'a', 'c')
	stand(t, "^\\n]", bare, 0, 9, 11, top)
	fails(t, "\\d-z]", api.ErrSyntax, 4)
	fails(t, "z-a]", api.ErrOrder, 3)
	x := api.Tables{Folds: rowOf('A', 'a')}
	if set, e := class.Read(scan.New(signs("A]")...), withFold, x); e != api.OK || !slices.Equal(set, of('A', 'A', 'a', 'a')) {
		t.Error(set, e)
	}
}

// TestEnd: P8.2, ErrSyntax where all is read, ahead of a ].
func TestEnd(t *testing.T) {
	for _, text := range []string{
		"", "a", "-", "--", "a-", "a-b", "a-b-", "\\", "\\d", "\\d-", "\\p{Lu}", "\\b", "\\-", "\\]", "a\\", "a-\\", "\\x41", "\\0", "[", "\\n-\\", "\\p", "\\P{", "\\p{Lu", "a-\\p{L",
	} {
		fails(t, text, api.ErrSyntax, len(text))
	}
	brackets(t, signs("^"), bare, nil, api.ErrSyntax, 1)
	brackets(t, signs("^^"), bare, nil, api.ErrSyntax, 2)
}

// TestRefused: P8.2, of a part: how far is read, and which error is told.
func TestRefused(t *testing.T) {
	// Behind a backslash nothing of the table stands: the backslash is read.
	for c := range 128 {
		sign := string(rune(c))
		if strings.Contains("bdDsSwWpPfnrtv0^$\\.*+?()[]{}|/-", sign) {
			continue
		}
		fails(t, "\\"+sign+"]", api.ErrSyntax, 1)
		fails(t, "a\\"+sign+"]", api.ErrSyntax, 2)
		fails(t, "a-\\"+sign+"]", api.ErrSyntax, 3)
		fails(t, "\\d-\\"+sign+"]", api.ErrSyntax, 4)
	}
	for _, c := range odd {
		if c < 0 || c > 127 {
			brackets(t, []int{'a', '\\', c, ']'}, bare, nil, api.ErrSyntax, 2)
		}
	}
	for _, text := range []string{"\\c1]", "\\c]", "\\01]", "\\00]", "\\x4]", "\\x4g]", "\\u004]", "\\u{}]", "\\u{110000}]", "\\u{41]", "\\u]", "\\1]", "\\k<a>]", "\\B]", "\\a]"} {
		fails(t, text, api.ErrSyntax, 1)
		fails(t, "b-"+text, api.ErrSyntax, 3)
	}
	// What is told of a set's escape.
	fails(t, "\\p]", api.ErrSyntax, 2)
	fails(t, "\\pL]", api.ErrSyntax, 2)
	fails(t, "\\p{}]", api.ErrSyntax, 3)
	fails(t, "\\P{L-}]", api.ErrSyntax, 4)
	fails(t, "\\p{Lu]", api.ErrSyntax, 5)
	fails(t, "\\p{"+name41+"}]", api.ErrSyntax, 43)
	fails(t, "\\p{No}]", api.ErrName, 6)
	fails(t, "ab\\P{No}]", api.ErrName, 8)
	fails(t, "\\p{"+name40[1:]+"}]", api.ErrName, 43)
}

// TestRangesRefused: P8.2, of a range, when both parts are read; errors of a part come first, and those of what stands ahead ahead of those.
func TestRangesRefused(t *testing.T) {
	fails(t, "\\d-a]", api.ErrSyntax, 4)
	fails(t, "a-\\d]", api.ErrSyntax, 4)
	fails(t, "\\d-\\d]", api.ErrSyntax, 5)
	fails(t, "\\d--]", api.ErrSyntax, 4)
	fails(t, "--\\w]", api.ErrSyntax, 4)
	fails(t, "\\p{Lu}-z]", api.ErrSyntax, 8)
	fails(t, "a-\\P{Lu}]", api.ErrSyntax, 8)
	fails(t, "\\s-\\x41]", api.ErrSyntax, 7)
	fails(t, "\\p{None}-a]", api.ErrSyntax, 10)
	fails(t, "\\p{=}-a]", api.ErrSyntax, 7)
	fails(t, "z-\\p{=}]", api.ErrSyntax, 7)
	fails(t, "b-a]", api.ErrOrder, 3)
	fails(t, "a--]", api.ErrOrder, 3)
	fails(t, "a-\\b]", api.ErrOrder, 4)
	fails(t, "a-\\-]", api.ErrOrder, 4)
	fails(t, "\\u{10FFFF}-\\0]", api.ErrOrder, 13)
	fails(t, "a-c-e-d]", api.ErrOrder, 7)
	fails(t, "a-ce-d]", api.ErrOrder, 6)
	// Errors of the second part, whatever the first one is.
	fails(t, "\\d-\\p{No}]", api.ErrName, 9)
	fails(t, "a-\\p{No}]", api.ErrName, 8)
	fails(t, "\\d-\\p{No-}]", api.ErrSyntax, 8)
	fails(t, "z-\\q]", api.ErrSyntax, 3)
	// The first part's, ahead of all of the second one.
	fails(t, "\\p{No}-\\q]", api.ErrName, 6)
	fails(t, "\\q-\\p{No}]", api.ErrSyntax, 1)
	// What stands ahead.
	fails(t, "b-a\\p{No}\\q", api.ErrOrder, 3)
	fails(t, "\\p{No}b-a\\q", api.ErrName, 6)
	fails(t, "\\qb-a\\p{No}", api.ErrSyntax, 1)
	fails(t, "b-a", api.ErrOrder, 3)
	fails(t, "\\p{No}", api.ErrName, 6)
	fails(t, "\\d-a", api.ErrSyntax, 4)
}

// TestNumbers: P8.2, numbers that are no code points are parts, and ends of ranges, and are left out.
func TestNumbers(t *testing.T) {
	for _, flags := range allFlags() {
		for _, c := range []int{-1, -2, -']', math.MinInt, top + 1, math.MaxInt, 1<<32 + 'a', 1<<32 + ']', 1<<32 + '\\', ']' + 256, '\\' - 256} {
			want := []api.Range(nil)
			if 0 <= c && c <= top {
				want = of(c, c)
			}
			brackets(t, []int{c, ']'}, flags, want, api.OK, 2)
			brackets(t, []int{c, '-', c, ']'}, flags, want, api.OK, 4)
			brackets(t, []int{c, '-', ']'}, flags, append(of('-', '-'), want...), api.OK, 3)
			brackets(t, []int{c}, flags, nil, api.ErrSyntax, 1)
			if want == nil {
				brackets(t, []int{'^', c, ']'}, flags, of(0, top), api.OK, 3)
				brackets(t, []int{c, 'b', c, ']'}, flags, of('b', 'b'), api.OK, 4)
			}
		}
	}
	for _, x := range []struct {
		lo, hi int
		want   []api.Range
		e      api.Errno
	}{
		{-5, 5, of(0, 5), api.OK}, {-5, -3, nil, api.OK}, {-3, -5, nil, api.ErrOrder}, {-1, 0, of(0, 0), api.OK}, {0, -1, nil, api.ErrOrder}, {math.MinInt, -1, nil, api.OK}, {math.MinInt, math.MaxInt, of(0, top), api.OK}, {math.MaxInt, math.MinInt, nil, api.ErrOrder}, {math.MinInt, math.MinInt, nil, api.OK}, {math.MaxInt, math.MaxInt, nil, api.OK}, {math.MaxInt - 1, math.MaxInt, nil, api.OK}, {math.MinInt, 7, of(0, 7), api.OK}, {7, math.MinInt, nil, api.ErrOrder},
		{top, top + 1, of(top, top), api.OK}, {top + 1, top, nil, api.ErrOrder}, {top + 1, top + 9, nil, api.OK}, {top + 9, top + 1, nil, api.ErrOrder}, {top - 3, math.MaxInt, of(top-3, top), api.OK}, {math.MaxInt, 7, nil, api.ErrOrder},
	} {
		l := []int{x.lo, '-', x.hi, ']'}
		not := []int{'^', -7, x.lo, '-', x.hi, ']'}
		if x.e == api.OK {
			brackets(t, l, bare, x.want, api.OK, 4)
			brackets(t, not, bare, others(x.want), api.OK, 6)
		} else {
			brackets(t, l, bare, nil, x.e, 3)
			brackets(t, not, bare, nil, x.e, 5)
		}
	}
	// Of a range of numbers that are no code points, in escapes, signs and as they are.
	brackets(t, append([]int{-5, '-'}, signs("\\b]")...), bare, of(0, 8), api.OK, 5)
	brackets(t, append(signs("\\u{10FFFE}-"), top+7, ']'), bare, of(top-1, top), api.OK, 13)
	brackets(t, []int{-5, '-', '\\', 'd', ']'}, bare, nil, api.ErrSyntax, 4)
	// Signs that only seem to be: a - or a ] by their lowest bits.
	brackets(t, []int{'a', '-' + 256, 'c', ']' + 256, ']'}, bare, of('a', 'a', 'c', 'c', '-'+256, '-'+256, ']'+256, ']'+256), api.OK, 5)
	brackets(t, []int{'^' + 256, 'a', ']'}, bare, of('a', 'a', '^'+256, '^'+256), api.OK, 3)
	brackets(t, []int{'a', '-', ']' + 256, ']'}, bare, of('a', ']'+256), api.OK, 4)
}

// TestUnmade: P8.1, P8.2, R1, R5, a scan that nobody made is read to its end.
func TestUnmade(t *testing.T) {
	made := scan.New(signs("d]")...)
	byHand := *made
	for _, s := range []*scan.Scan{nil, {}, new(scan.Scan), &byHand} {
		for _, flags := range allFlags() {
			for _, x := range append(wrong(), letters(), api.Tables{}) {
				for range 2 {
					if set, is, e := class.Escape(s, flags, x); set != nil || is || e != api.OK {
						t.Error(set, is, e)
					}
					if set, e := class.Read(s, flags, x); set != nil || e != api.ErrSyntax {
						t.Error(set, e)
					}
				}
			}
		}
	}
	if made.At() != 0 {
		t.Error(made.At())
	}
}

// pieces are what brackets are made of, whole and in part.
var pieces = []string{
	"]", "^", "-", "\\", "a", "c", "k", "z", "A", "b", "d", "w", "p", "0", "{", "}", "\\d", "\\D", "\\s", "\\S", "\\w", "\\W", "\\p{Lu}", "\\P{Lu}", "\\p{E}", "\\p{No}", "p{None}", "\\P{All}", "\\p{", "Lu}", "P{" + name40 + "}", "\\p{" + name41 + "}",
	"\\b", "\\-", "\\]", "\\n", "\\0", "\\cA", "\\x41", "\\x4", "\\u212A", "\\u{17F}", "\\u{10FFFF}", "\\uD83D", "\\uDE00", "\\q", "\\B", "a-z", "A-", "-k", "[", "!", "é", "p{=}", "P{No-", "D", "S", "W", "s",
}

// some are the numbers of a few pieces, and some odd ones amid.
func some(r *rand.Rand) []int {
	var l []int
	for range r.Intn(9) {
		if r.Intn(10) == 0 {
			l = append(l, odd[r.Intn(len(odd))])
		} else {
			l = append(l, signs(pieces[r.Intn(len(pieces))])...)
		}
	}
	return l
}

// TestReads: P8.2, held against the chapter's words: some pieces from any place on, most of them with a ] at last.
func TestReads(t *testing.T) {
	r := rand.New(rand.NewSource(82))
	all := append(wrong(), letters(), letters(), letters(), letters(), letters(), letters(), letters(), api.Tables{})
	met := map[api.Errno]int{}
	for range 60000 {
		ahead, points := some(r), some(r)
		if r.Intn(4) > 0 {
			points = append(points, ']')
		}
		met[reads(t, append(slices.Clone(ahead), points...), len(ahead), allFlags()[r.Intn(16)], all[r.Intn(len(all))])]++
	}
	for _, e := range []api.Errno{api.OK, api.ErrSyntax, api.ErrName, api.ErrOrder} {
		if met[e] < 1000 {
			t.Error(e, met[e])
		}
	}
}

// TestAllShort: P8.2, all texts of up to six of these signs, held against the chapter's words.
func TestAllShort(t *testing.T) {
	x := api.Tables{Folds: rowOf('A', 'a', 'b', 'c')}
	texts := []string{""}
	for at := 0; len(texts[at]) < 6; at++ {
		for _, c := range "^-]\\abd" {
			texts = append(texts, texts[at]+string(c))
		}
	}
	for i, text := range texts {
		reads(t, signs(text), 0, api.Flags{Fold: i%2 > 0}, x)
	}
}
