package early_test

import (
	"strconv"
	"strings"
	"testing"

	"tinder/api"
	"tinder/early"
	"tinder/parse"
)

// TestExample: the chapter's examples.
func TestExample(t *testing.T) {
	reads(t, `(a)\1`, []string{""}, set('a', 'a'), group(1, 0), backTo(1), above(api.NodeSeq, 1, 2))
	fails(t, `\2(a)`, api.ErrGroup, 0)
	fails(t, `(?<n>a)(?<n>b)`, api.ErrName, 7)
	reads(t, `\k<n>(?<n>a)`, []string{"n"}, backTo(1), set('a', 'a'), group(1, 1), above(api.NodeSeq, 0, 2))
	if flags, is := early.Flags("ii"); is || flags != (api.Flags{}) {
		t.Error(flags, is)
	}
}

// TestPlain: P10.1, P10.3, patterns that refer to nothing are as they are read.
func TestPlain(t *testing.T) {
	reads(t, "", nil, empty)
	reads(t, "1|", nil, set('1', '1'), empty, above(api.NodeAlt, 0, 1))
	reads(t, "()", []string{""}, empty, group(1, 0))
	reads(t, "(?<a>)((?<b>))", []string{"a", "", "b"}, empty, group(1, 0), empty, group(3, 2), group(2, 3), above(api.NodeSeq, 1, 4))
	for _, text := range []string{"a*?", "[^k]{2,5}", `(?=a)(?!b)(?<=c)(?<!d)(?>e)`, `^$\b\B`, `\p{Lu}\P{None}\d\W`, ".", "(a)(b)|c+"} {
		for _, flags := range allFlags() {
			r, _, e := parse.Read(text, flags, tables())
			x, at, got := alikeRead(t, text, flags, tables())
			if e != api.OK || got != api.OK || at != 0 || !same(x, r.Tree) {
				t.Errorf("%q, %v: %v, %v at %d, %s", text, flags, e, got, at, shown(x))
			}
		}
	}
}

// TestNumbers: P10.1, the group of a number: ahead of that group, within it, behind it, in what looks ahead or back.
func TestNumbers(t *testing.T) {
	reads(t, `\1()`, []string{""}, backTo(1), empty, group(1, 1), above(api.NodeSeq, 0, 2))
	reads(t, `(\1)`, []string{""}, backTo(1), group(1, 0))
	reads(t, `()(\1\2)`, []string{"", ""}, empty, group(1, 0), backTo(1), backTo(2), above(api.NodeSeq, 2, 3), group(2, 4), above(api.NodeSeq, 1, 5))
	reads(t, `(?<=\1())`, []string{""}, backTo(1), empty, group(1, 1), above(api.NodeSeq, 0, 2), above(api.NodeBehind, 3))
	reads(t, `\2((?>()))|\1`, []string{"", ""}, backTo(2), empty, group(2, 1), above(api.NodeAtomic, 2), group(1, 3), above(api.NodeSeq, 0, 4), backTo(1), above(api.NodeAlt, 5, 6))
	reads(t, `(?<x>)\1`, []string{"x"}, empty, group(1, 0), backTo(1), above(api.NodeSeq, 1, 2))
	// Up to 20 groups, and numbers of one digit and of two.
	for n := range 21 {
		for k := 1; k <= 22; k++ {
			text := strings.Repeat("()", n) + `|\` + strconv.Itoa(k)
			if k > n {
				fails(t, text, api.ErrGroup, 2*n+1)
				continue
			}
			x, at, e := alikeRead(t, text, api.Flags{All: true}, tables())
			if e != api.OK || at != 0 || x.Nodes[len(x.Nodes)-2].Group != k {
				t.Errorf("%q: %v at %d, %s", text, e, at, shown(x))
			}
		}
	}
}

// TestNoGroup: P10.1, numbers of no group.
func TestNoGroup(t *testing.T) {
	fails(t, `\1`, api.ErrGroup, 0)
	fails(t, `(?:a)\1`, api.ErrGroup, 5)
	fails(t, `(?=a)\1`, api.ErrGroup, 5)
	fails(t, `\(\)\1`, api.ErrGroup, 4)
	fails(t, `[()]\1`, api.ErrGroup, 4)
	fails(t, `()b\10`, api.ErrGroup, 3)
	fails(t, `()\11`, api.ErrGroup, 2)
	fails(t, `()\21`, api.ErrGroup, 2)
	fails(t, `()\2()\3`, api.ErrGroup, 6)
	fails(t, `(é\2)`, api.ErrGroup, 2)
	fails(t, `(?<n>)\2`, api.ErrGroup, 6)
	for _, digits := range []string{"99", "2147483648", "4294967297", "1073741823", "1073741824", "18446744073709551617", "1" + strings.Repeat("0", 1900)} {
		fails(t, `()\`+digits, api.ErrGroup, 2)
	}
}

// TestNames: P10.1, the group of a name: ahead of that group, within it, behind it; and of groups that have none.
func TestNames(t *testing.T) {
	reads(t, `(?<a>)\k<a>`, []string{"a"}, empty, group(1, 0), backTo(1), above(api.NodeSeq, 1, 2))
	reads(t, `(?<a>\k<a>)`, []string{"a"}, backTo(1), group(1, 0))
	reads(t, `()(?<a>)()\k<a>\3`, []string{"", "a", ""}, empty, group(1, 0), empty, group(2, 2), empty, group(3, 4), backTo(2), backTo(3), above(api.NodeSeq, 1, 3, 5, 6, 7))
	reads(t, `(?<b>\k<a>)(?<a>\k<b>)`, []string{"b", "a"}, backTo(2), group(1, 0), backTo(1), group(2, 2), above(api.NodeSeq, 1, 3))
	reads(t, `(?<x>(?<y>\k<x>)\k<y>)`, []string{"x", "y"}, backTo(1), group(2, 0), backTo(2), above(api.NodeSeq, 1, 2), group(1, 3))
	for _, name := range []string{"A", "z", "_", "$", "a0", "$$", "k", name40} {
		reads(t, "(?<"+name+`>)\k<`+name+">", []string{name}, empty, group(1, 0), backTo(1), above(api.NodeSeq, 1, 2))
	}
	// Names that differ in one sign, in how long they are, in great and small letters.
	fails(t, `(?<ab>)\k<a>`, api.ErrName, 7)
	fails(t, `(?<a>)\k<ab>`, api.ErrName, 6)
	fails(t, `(?<a>)\k<A>`, api.ErrName, 6)
	fails(t, "(?<"+name40+`>)\k<`+name40[:39]+">", api.ErrName, 45)
	reads(t, `(?<a>)(?<A>)(?<aa>)\k<A>`, []string{"a", "A", "aa"}, empty, group(1, 0), empty, group(2, 2), empty, group(3, 4), backTo(2), above(api.NodeSeq, 1, 3, 5, 6))
}

// TestNoName: P10.1, names of no group.
func TestNoName(t *testing.T) {
	fails(t, `\k<a>`, api.ErrName, 0)
	fails(t, `()\k<a>`, api.ErrName, 2)
	fails(t, `(\k<a>)`, api.ErrName, 1)
	fails(t, `(?<n>a)\k<m>`, api.ErrName, 7)
	fails(t, `(?<n>\k<n>\k<m>)`, api.ErrName, 10)
	fails(t, `(?:<a>)\k<a>`, api.ErrName, 7)
	fails(t, `\(\?<a>\)\k<a>`, api.ErrName, 9)
}

// TestTwice: P10.1, a name that is there twice, at the later one of both, wherever they stand.
func TestTwice(t *testing.T) {
	fails(t, `(?<n>a)|(?<n>b)`, api.ErrName, 8)
	fails(t, `(?<n>(?<n>))`, api.ErrName, 5)
	fails(t, `(?<n>(?<m>))(?<n>)`, api.ErrName, 12)
	fails(t, `(?<n>)(?<m>)(?<m>)(?<n>)`, api.ErrName, 12)
	fails(t, `(?<n>)(?<n>)(?<n>)`, api.ErrName, 6)
	fails(t, `()é(?<n>)()(?=(?<n>))`, api.ErrName, 14)
	fails(t, strings.Repeat("()", 18)+"(?<"+name40+">)(?<"+name40+">)", api.ErrName, 81)
	// Groups without names are not of one name.
	reads(t, `()(?<n>)()`, []string{"", "n", ""}, empty, group(1, 0), empty, group(2, 2), empty, group(3, 4), above(api.NodeSeq, 1, 3, 5))
}

// TestFirst: P10.1, R2, of several errors the first one: names of groups ahead of what refers, and of that the first.
func TestFirst(t *testing.T) {
	fails(t, `\9(?<n>)(?<n>)`, api.ErrName, 8)
	fails(t, `\k<m>(?<n>)(?<n>)`, api.ErrName, 11)
	fails(t, `(?<n>a)(?<n>\2)\3`, api.ErrName, 7)
	fails(t, `\9\k<m>`, api.ErrGroup, 0)
	fails(t, `\k<m>\9`, api.ErrName, 0)
	fails(t, `()\1\9\k<m>\8`, api.ErrGroup, 4)
	fails(t, `(?<n>)\k<n>\k<m>\9`, api.ErrName, 11)
	fails(t, `(\9)\k<m>`, api.ErrGroup, 1)
	fails(t, `(?<=\k<b>\k<a>)`, api.ErrName, 4)
	fails(t, `(?<=\9\8)`, api.ErrGroup, 4)
	fails(t, `\9*\8{2}`, api.ErrGroup, 0)
}

// TestParseFirst: P10.3, what is wrong for those who read comes ahead of all that is found early, at its place.
func TestParseFirst(t *testing.T) {
	for text, want := range map[string]struct {
		e  api.Errno
		at int
	}{
		`\9)`: {api.ErrSyntax, 2}, `\9(`: {api.ErrSyntax, 2}, `\k<a>**`: {api.ErrSyntax, 6}, `(?<n>)(?<n>)]`: {api.ErrSyntax, 12}, `(?<n>)(?<n>)[b-a]`: {api.ErrOrder, 12}, `\1\p{No}`: {api.ErrName, 2}, `\1{2,1}`: {api.ErrOrder, 2}, `\1{1001}`: {api.ErrSize, 2},
		`\k<1>`: {api.ErrName, 0}, `()\k`: {api.ErrName, 2}, `(?<1>)`: {api.ErrName, 0}, `\9(?<>)`: {api.ErrName, 2}, `\00`: {api.ErrSyntax, 0},
	} {
		fails(t, text, want.e, want.at)
	}
	fails(t, `\9`+strings.Repeat("()", 21), api.ErrGroup, 42)
	fails(t, `(?<n>)(?<n>)`+strings.Repeat("()", 19), api.ErrGroup, 12+36)
	failsAt(t, `\9`+strings.Repeat("(?>", 60)+strings.Repeat(")", 60), api.Flags{}, api.ErrDepth, 0)
	failsAt(t, "(?<n>)(?<n>)"+strings.Repeat("a", 1989), api.Flags{}, api.ErrLong, 0)
	failsAt(t, "é\\9\xFF", api.Flags{}, api.ErrShape, 4)
	failsAt(t, "\\9"+strings.Repeat("a", 1<<16), api.Flags{}, api.ErrLong, 0)
}

// TestWith: P10.3, flags and tables mean what they mean to those who read.
func TestWith(t *testing.T) {
	for _, flags := range allFlags() {
		k, dot := of('k', 'k'), of(0, 9, 11, 12, 14, 0x2027, 0x202A, top)
		if flags.Fold {
			k = of('K', 'K', 'k', 'k', 0x212A, 0x212A)
		}
		if flags.All {
			dot = of(0, top)
		}
		x, at, e := alikeRead(t, `(k)\1.`, flags, tables())
		want := api.Tree{Nodes: []api.Node{{Kind: api.NodeSet, Set: k}, group(1, 0), backTo(1), {Kind: api.NodeSet, Set: dot}, above(api.NodeSeq, 1, 2, 3)}, Names: []string{""}}
		if e != api.OK || at != 0 || !same(x, want) {
			t.Errorf("%v: %v at %d, %s", flags, e, at, shown(x))
		}
		for _, wrong := range []api.Tables{{}, {Props: tables().Props[1:]}, {Folds: of2(5, 5), Props: tables().Props}} {
			if _, at, e := alikeRead(t, `()\9\p{Lu}`, flags, wrong); e != api.ErrName || at != 4 {
				t.Errorf("%v: %v at %d", flags, e, at)
			}
		}
		if _, at, e := alikeRead(t, `()\9\p{Lu}`, flags, tables()); e != api.ErrGroup || at != 2 {
			t.Errorf("%v: %v at %d", flags, e, at)
		}
	}
}

func of2(from, to int) []api.Fold { return []api.Fold{{From: from, To: to}} }
