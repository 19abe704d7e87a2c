package fold_test

import (
	"math"
	"math/rand"
	"slices"
	"strings"
	"testing"

	"tinder/api"
	"tinder/fold"
)

// signs are all that a name may have, in their order as bytes.
const signs = "0123456789=ABCDEFGHIJKLMNOPQRSTUVWXYZ_abcdefghijklmnopqrstuvwxyz"

// props are such of these names, each with one set.
func props(set []api.Range, names ...string) api.Tables {
	var t api.Tables
	for _, name := range names {
		t.Props = append(t.Props, api.Prop{Name: name, Set: set})
	}
	return t
}

// TestRight: P4.1, of tables that are right, about each edge.
func TestRight(t *testing.T) {
	var eachSign []string
	for _, c := range signs {
		eachSign = append(eachSign, string(c))
	}
	for i, x := range []api.Tables{
		{}, {Folds: []api.Fold{}, Props: []api.Prop{}}, letters(), ends(), unicodes(),
		{Folds: folds(0, 1)}, {Folds: folds(1, 0)}, {Folds: folds(0, top)}, {Folds: folds(top, 0)}, {Folds: folds(top, top-1)}, {Folds: folds(0, 1, 2, 1)}, {Folds: folds(1, 5, 2, 5, 3, 5, 4, 5, 6, 5)}, {Folds: folds(1, 9, 2, 8, 3, 7)}, {Folds: folds(0xD800, 0xDFFF)},
		props(nil, eachSign...), props(nil, signs[:40]), props(nil, signs[24:]), props(nil, "a", "aa", "aaa", "ab", "b"), props(nil, "Z", "a"), props(nil, "9", "=", "A"), props(nil, strings.Repeat("a", 39), strings.Repeat("a", 40)),
		props(of(0, top), "All"), props(of(0, 0, top, top), "Ends"), props(of(5, 5, 7, 7), "A", "B"), props([]api.Range{}, "None"), props(many(1999), "A"), props(many(2000), "A", "B"),
	} {
		if !fold.Right(x) {
			t.Error(i)
		}
	}
}

// TestWrongFolds: P4.1, of folds of which one thing is wrong: there are no folds, and no props.
func TestWrongFolds(t *testing.T) {
	for _, l := range [][]api.Fold{
		folds(2, 9, 1, 9), folds(1, 9, 3, 9, 2, 9), folds(1, 9, 1, 9), folds(1, 8, 1, 9), folds(1, 9, 2, 9, 2, 9), folds(1, 9, 2, 9, 1, 9),
		folds(-1, 9), folds(math.MinInt, 9), folds(top+1, 9), folds(math.MaxInt, 9), folds(1, 9, top+1, 9), folds(-1, 9, 1, 9),
		folds(1, -1), folds(1, math.MinInt), folds(1, top+1), folds(1, math.MaxInt), folds(1, 9, 2, -1), folds(1, 9, 2, top+1), folds(-5, -4), folds(top+1, top+2), folds(1<<32+1, 9), folds(1, 1<<32+9),
		folds(0, 0), folds(5, 5), folds(top, top), folds(1, 9, 5, 5), folds(5, 5, 6, 9),
		folds(1, 2, 2, 9), folds(1, 9, 9, 10), folds(1, 9, 2, 1), folds(1, 5, 2, 5, 3, 5, 4, 5, 5, 6), folds(1, 2, 2, 1), folds(1, 9, 2, 9, 3, 1), folds(0, 9, 4, 0), folds(4, top, top, 9), folds(1, 9, 3, 9, 5, 3, 7, 9),
	} {
		x := letters()
		x.Folds = l
		none(t, x, l)
		none(t, api.Tables{Folds: l}, l)
	}
}

// TestWrongProps: P4.1, of props of which one thing is wrong: there are no props, and no folds.
func TestWrongProps(t *testing.T) {
	long := strings.Repeat("a", 41)
	for i, x := range []api.Tables{
		props(nil, ""), props(nil, "", "A"), props(nil, "A", ""), props(nil, long), props(nil, "A", long), props(nil, strings.Repeat("a", 1000)),
		props(nil, "B", "A"), props(nil, "A", "A"), props(nil, "A", "C", "B"), props(nil, "A", "B", "A"), props(nil, "aa", "a"), props(nil, "a", "Z"), props(nil, "_", "Z"), props(nil, "A", "="), props(nil, "=", "9"),
		props(nil, "a b"), props(nil, " "), props(nil, "A "), props(nil, "Script-Latin"), props(nil, "\u00e9"), props(nil, "A\u00df"), props(nil, "\xff"), props(nil, "A\xffB"), props(nil, "\ufffd"), props(nil, "A\x00"), props(nil, "\uff21"), props(nil, "L{"),
		props(of(5, 4), "A"), props(of(-1, 4), "A"), props(of(0, top+1), "A"), props(of(top+1, top+1), "A"), props(of(-2, -1), "A"), props(of(1, 2, 3, 4), "A"), props(of(1, 2, 2, 4), "A"), props(of(5, 6, 1, 2), "A"), props(of(1, 9, 3, 4), "A"), props(of(math.MinInt, math.MaxInt), "A"), props(of(1, 2, 4, 3), "A"), props(of(1, 1, 1, 1), "A"),
		props(many(2001), "A"), props(many(5000), "A"),
		{Props: []api.Prop{{Name: "A", Set: of(1, 1)}, {Name: "B", Set: of(2, 1)}, {Name: "C"}}}, {Props: []api.Prop{{Name: "A", Set: many(2000)}, {Name: "B"}, {Name: "C", Set: many(2001)}}},
	} {
		none(t, x, i)
		x.Folds = letters().Folds
		none(t, x, i)
	}
}

// TestSigns: P4.1, each byte in a name, alone and amid others.
func TestSigns(t *testing.T) {
	for c := range 256 {
		s := string([]byte{byte(c)})
		for _, name := range []string{s, s + "A", "A" + s, "A" + s + "A", strings.Repeat("A", 39) + s} {
			x := props(of(1, 2), name)
			is := strings.Contains(signs, s)
			if fold.Right(x) != is {
				t.Errorf("%q", name)
			}
			if set, got := fold.Prop(x, name); got != is || is != (len(set) > 0) {
				t.Errorf("%q: %v", name, set)
			}
		}
	}
}

// TestCanon: P4.1, of any number.
func TestCanon(t *testing.T) {
	for _, x := range []struct {
		t       api.Tables
		c, want int
	}{
		{letters(), 'A', 'a'}, {letters(), 'a', 'a'}, {letters(), 'K', 'k'}, {letters(), 0x212A, 'k'}, {letters(), 'k', 'k'}, {letters(), 0x17F, 's'}, {letters(), 0x212B, 0xE5}, {letters(), 'B', 'B'}, {letters(), '@', '@'}, {letters(), 0x212C, 0x212C}, {letters(), 0, 0}, {letters(), top, top},
		{ends(), 0, top}, {ends(), top, top}, {ends(), top - 1, top}, {ends(), 9, 4}, {ends(), 4, 4}, {ends(), 3, 3}, {ends(), top + 1, top + 1},
		{letters(), -1, -1}, {letters(), -'A', -'A'}, {letters(), top + 1, top + 1}, {letters(), math.MinInt, math.MinInt}, {letters(), math.MaxInt, math.MaxInt}, {letters(), 1<<32 + 'A', 1<<32 + 'A'}, {api.Tables{}, 'A', 'A'}, {api.Tables{}, -7, -7},
	} {
		if got := fold.Canon(x.t, x.c); got != x.want {
			t.Errorf("%x: %x, want %x", x.c, got, x.want)
		}
	}
}

// TestProp: P4.1, of names that are there and that are not.
func TestProp(t *testing.T) {
	for _, x := range []api.Tables{letters(), ends(), unicodes(), props(many(2000), "A", "B"), props(nil, strings.Repeat("a", 39), strings.Repeat("a", 40))} {
		for _, p := range x.Props {
			set, is := fold.Prop(x, p.Name)
			same(t, set, p.Set, p.Name)
			if !is {
				t.Error(p.Name)
			}
		}
		for _, name := range []string{"", " ", "l", "Lx", "Script", "Script=", "Script=Lati", "Script=Latina", "LU", "L\x00", "\xff", "zzz", strings.Repeat("a", 38), strings.Repeat("a", 41), strings.Repeat("z", 1<<20)} {
			if set, is := fold.Prop(x, name); is || len(set) > 0 {
				t.Errorf("%.40q: %v", name, set)
			}
		}
	}
}

// TestClose: P4.2.
func TestClose(t *testing.T) {
	for i, x := range []struct {
		t    api.Tables
		sets [][]api.Range
		want []api.Range
	}{
		{letters(), nil, nil}, {letters(), [][]api.Range{nil, {}, nil}, nil}, {letters(), [][]api.Range{of(0, top)}, of(0, top)}, {letters(), [][]api.Range{of(math.MinInt, math.MaxInt)}, of(0, top)},
		// Of the code points of one canon: the canon alone, another one alone, all of them.
		{letters(), [][]api.Range{of('k', 'k')}, of('K', 'K', 'k', 'k', 0x212A, 0x212A)}, {letters(), [][]api.Range{of('K', 'K')}, of('K', 'K', 'k', 'k', 0x212A, 0x212A)}, {letters(), [][]api.Range{of(0x212A, 0x212A)}, of('K', 'K', 'k', 'k', 0x212A, 0x212A)}, {letters(), [][]api.Range{of('K', 'K', 'k', 'k', 0x212A, 0x212A)}, of('K', 'K', 'k', 'k', 0x212A, 0x212A)},
		{letters(), [][]api.Range{of('b', 'z')}, of('K', 'K', 'S', 'S', 'b', 'z', 0x17F, 0x17F, 0x212A, 0x212A)}, {letters(), [][]api.Range{of('x', 'z')}, of('x', 'z')}, {letters(), [][]api.Range{of('J', 'L')}, of('J', 'L', 'k', 'k', 0x212A, 0x212A)},
		// Ranges that are not right, and numbers that are no code points.
		{letters(), [][]api.Range{of('a', 'A')}, nil}, {letters(), [][]api.Range{of('s', 's', 'a', 'a')}, of('A', 'A', 'S', 'S', 'a', 'a', 's', 's', 0x17F, 0x17F)}, {letters(), [][]api.Range{of(-5, -1, top+1, top+9, 'z', 'a')}, nil}, {letters(), [][]api.Range{of(-5, 0, 1, 1, top, top+9)}, of(0, 1, top, top)}, {letters(), [][]api.Range{of(-'A', -'A', 1<<32+'A', 1<<32+'A')}, nil},
		// Several sets.
		{letters(), [][]api.Range{of('A', 'A'), of('K', 'K')}, of('A', 'A', 'K', 'K', 'a', 'a', 'k', 'k', 0x212A, 0x212A)}, {letters(), [][]api.Range{of('x', 'y'), nil, of('y', 'z'), of('a', 'a')}, of('A', 'A', 'a', 'a', 'x', 'z')}, {letters(), [][]api.Range{of('a', 'a'), of('a', 'a')}, of('A', 'A', 'a', 'a')},
		// The code points 0 and MaxPoint.
		{ends(), [][]api.Range{of(0, 0)}, of(0, 0, top-1, top)}, {ends(), [][]api.Range{of(top, top)}, of(0, 0, top-1, top)}, {ends(), [][]api.Range{of(top-1, top-1)}, of(0, 0, top-1, top)}, {ends(), [][]api.Range{of(1, 3)}, of(1, 3)}, {ends(), [][]api.Range{of(6, 6)}, of(4, 6, 9, 9)}, {ends(), [][]api.Range{of(top+1, math.MaxInt)}, nil},
		{api.Tables{}, [][]api.Range{of('a', 'z', 'y', 'z', 3, 4)}, of(3, 4, 'a', 'z')}, {props(of('a', 'b'), "A"), [][]api.Range{of('a', 'a')}, of('a', 'a')}, {api.Tables{}, nil, nil},
	} {
		same(t, fold.Close(x.t, x.sets...), x.want, i)
		same(t, closed(x.t, x.sets...), x.want, i)
	}
}

// TestRandom: P4.1, P4.2, of tables right and wrong, held against the chapter's words.
func TestRandom(t *testing.T) {
	r := rand.New(rand.NewSource(4))
	rights := 0
	for range 30000 {
		x := random(r)
		is := rightTables(x)
		if fold.Right(x) != is {
			t.Fatal(x, !is)
		}
		if is {
			rights++
		}
		for c := -3; c < 12; c++ {
			for _, d := range []int{c, c + top - 6} {
				if got, want := fold.Canon(x, d), canon(foldsOf(x), d); got != want {
					t.Fatal(x, d, got, want)
				}
			}
		}
		a, b := row(r, r.Intn(4)), row(r, r.Intn(4))
		same(t, fold.Close(x, a), closed(x, a), x, a)
		same(t, fold.Close(x, a, b), closed(x, a, b), x, a, b)
		for _, name := range []string{"", "A", "AB", "B", "_", "a", "=", "a b", "z", "C"} {
			at := slices.IndexFunc(x.Props, func(p api.Prop) bool { return is && p.Name == name })
			set, has := fold.Prop(x, name)
			if has != (at >= 0) || !has && len(set) > 0 || has && !slices.Equal(set, x.Props[at].Set) {
				t.Fatal(x, name, set)
			}
		}
	}
	if rights < 3000 || rights > 27000 {
		t.Error("too few of one sort:", rights)
	}
}

// theSets fails unless the sets that hang on nothing are those of the chapter.
func theSets(t *testing.T) {
	t.Helper()
	same(t, fold.Lines(), of(10, 10, 13, 13, 0x2028, 0x2029))
	same(t, fold.Digits(), of(48, 57))
	same(t, fold.Spaces(), of(9, 13, 32, 32, 0xA0, 0xA0, 0x1680, 0x1680, 0x2000, 0x200A, 0x2028, 0x2029, 0x202F, 0x202F, 0x205F, 0x205F, 0x3000, 0x3000, 0xFEFF, 0xFEFF))
	same(t, fold.Words(api.Tables{}, false), of(48, 57, 65, 90, 95, 95, 97, 122))
	same(t, fold.Words(api.Tables{}, true), of(48, 57, 65, 90, 95, 95, 97, 122))
}

// TestSets: P4.3.
func TestSets(t *testing.T) {
	theSets(t)
}

// TestWords: P4.3, folded and not, of right tables and wrong ones.
func TestWords(t *testing.T) {
	plain := of(48, 57, 65, 90, 95, 95, 97, 122)
	for _, x := range []api.Tables{{}, letters(), ends(), props(of('a', 'b'), "A"), {Folds: folds('a', 'a')}, {Folds: folds(0x212A, 'k', 0x17F, 's')}} {
		same(t, fold.Words(x, false), plain)
		same(t, fold.Words(x, true), closed(x, plain))
	}
	same(t, fold.Words(letters(), true), of(48, 57, 65, 90, 95, 95, 97, 122, 0x17F, 0x17F, 0x212A, 0x212A))
	same(t, fold.Words(unicodes(), true), of(48, 57, 65, 90, 95, 95, 97, 122, 0x17F, 0x17F, 0x212A, 0x212A))
	same(t, fold.Words(api.Tables{Folds: folds(0, '_', 9, 8, '5', 4)}, true), of(0, 0, 4, 4, 48, 57, 65, 90, 95, 95, 97, 122))
	same(t, fold.Words(api.Tables{Folds: folds(0x17F, 's', 0x17F, 's')}, true), plain)
}
