package parts_test

import (
	"math"
	"math/rand"
	"slices"
	"testing"

	"tinder/api"
	"tinder/parts"
)

// TestOf: P5.1, ordinary sets, the chapter's example, and the edges that it names.
func TestOf(t *testing.T) {
	all := of(0, top)
	are(t, row(of(0, '`', '{', top), of('a', 'e', 'g', 'z'), of('f', 'f')), of('a', 'z'), of('f', 'f'))
	are(t, row(all))
	are(t, row(all), nil)
	are(t, row(all), all)
	are(t, row(all), nil, all, nil, all, all)
	are(t, row(of(0, 4, 10, top), of(5, 9)), of(5, 9))
	are(t, row(of(0, 4, 10, top), of(5, 9)), of(5, 9), of(5, 9), nil, of(0, 4, 10, top), all)
	are(t, row(of(0, 0), of(1, top)), of(0, 0))
	are(t, row(of(0, 0), of(1, top)), of(1, top))
	are(t, row(of(0, top-1), of(top, top)), of(top, top))
	are(t, row(of(0, top-1), of(top, top)), of(0, top-1))
	are(t, row(of(0, 0), of(1, top-1), of(top, top)), of(0, 0), of(top, top))
	are(t, row(of(0, 0, top, top), of(1, top-1)), of(top, top, 0, 0))
	are(t, row(of(0, 4), of(5, 9), of(10, 14), of(15, top)), of(0, 9), of(5, 14))
	are(t, row(of(0, 4), of(5, 9), of(10, 14), of(15, top)), of(5, 14), of(0, 9))
	are(t, row(of(0, 0, 13, top), of(1, 3, 10, 12), of(4, 5, 8, 9), of(6, 7)), of(1, 12), of(4, 9), of(6, 7))
	are(t, row(of(0, 0, 13, top), of(1, 3, 10, 12), of(4, 5, 8, 9), of(6, 7)), of(6, 7), of(1, 12), of(4, 9))
	are(t, row(of(0, 4), of(5, 9), of(10, top)), of(0, 4), of(5, 9), of(10, top))
	are(t, row(of(0, 1, 6, top), of(2, 3), of(4, 5)), of(2, 3), of(4, 5))
}

// TestOrder: P5.1, classes of several pieces come by their least code points, whichever set tells them apart.
func TestOrder(t *testing.T) {
	want := row(of(0, 0, 8, 8), of(1, 1, 9, 9), of(2, 2, 7, 7), of(3, 3, 5, 5), of(4, 4, 6, 6), of(10, top))
	kinds := []int{0, 1, 2, 3, 4}
	for range 120 {
		for i := range kinds {
			var sets [][]api.Range
			for _, k := range kinds[i:] {
				sets = append(sets, want[k])
			}
			asTold(t, sets...)
			if i == 0 {
				are(t, want, sets...)
			}
		}
		following(kinds)
	}
	are(t, row(of(0, 2), of(3, 3, 9, 9), of(4, 8), of(10, top)), of(4, 8), of(10, top), of(0, 2))
	are(t, row(of(0, 2), of(3, 3, 9, 9), of(4, 8), of(10, top)), of(9, 9, 3, 3), of(4, 8), of(5, 5, 4, 4, 6, 8), of(0, 2))
}

// following makes the next order of a row.
func following(l []int) {
	i := len(l) - 2
	for i >= 0 && l[i] >= l[i+1] {
		i--
	}
	if i >= 0 {
		j := len(l) - 1
		for l[j] <= l[i] {
			j--
		}
		l[i], l[j] = l[j], l[i]
	}
	slices.Reverse(l[i+1:])
}

// TestOfWrongSets: P5.1, ranges that are not right are taken as what they have.
func TestOfWrongSets(t *testing.T) {
	all := row(of(0, top))
	are(t, all, of(9, 7))
	are(t, all, of(9, 7, 5, 4), of(math.MaxInt, math.MinInt))
	are(t, all, of(-5, -1), of(-1, -1), of(math.MinInt, -1))
	are(t, all, of(top+1, top+1), of(top+1, math.MaxInt), of(math.MaxInt, math.MaxInt))
	are(t, all, of(math.MinInt, math.MaxInt))
	are(t, all, of(-5, 1<<40), of(0, top+1), of(-1, top))
	are(t, all, of(500, top, 0, 499), of(0, 300, 200, top))
	are(t, row(of(0, 3), of(4, top)), of(-7, 3))
	are(t, row(of(0, 3), of(4, top)), of(math.MinInt, 3))
	are(t, row(of(0, 3), of(4, top)), of(4, math.MaxInt))
	are(t, row(of(0, 0), of(1, top)), of(math.MinInt, 0))
	are(t, row(of(0, top-1), of(top, top)), of(top, math.MaxInt))
	are(t, row(of(0, 0, 6, 7, 10, top), of(1, 5, 8, 9)), of(8, 9, 3, 5, 1, 3, 2, 2, 9, 8, 4, 4, 8, 8))
	are(t, row(of(0, 0, 6, top), of(1, 5)), of(1, 2, 3, 5), of(4, 5, 1, 3), of(1, 1, 2, 2, 3, 3, 4, 4, 5, 5))
	for _, a := range pieces {
		asTold(t, []api.Range{a})
		for _, b := range pieces {
			asTold(t, []api.Range{a, b})
			asTold(t, []api.Range{a}, []api.Range{b})
		}
	}
}

// TestOfRows: P5.1, rows of rows of no special order, held against the chapter's words.
func TestOfRows(t *testing.T) {
	r := rand.New(rand.NewSource(5))
	for range 4000 {
		var sets [][]api.Range
		for range r.Intn(10) {
			sets = append(sets, some(r, 5))
		}
		asTold(t, sets...)
	}
}

// many are so many sets.
func many(n int, set func(i int) []api.Range) [][]api.Range {
	var l [][]api.Range
	for i := range n {
		l = append(l, set(i))
	}
	return l
}

// TestManySets: P5.1, sets that tell nothing new, and one or two among them that tell a code point apart, wherever they stand.
func TestManySets(t *testing.T) {
	for _, n := range []int{1, 2, 3, 7, 8, 9, 31, 32, 33, 63, 64, 65, 66, 127, 128, 129, 130, 255, 256, 257, 300, 511, 513, 1025} {
		old := row(of(0, 4, 8, 8, 13, top), of(5, 7, 9, 9), of(10, 12))
		sets := many(n, func(i int) []api.Range { return old[i%3] })
		asTold(t, sets...)
		for _, k := range []int{0, 1, 5, 31, 32, 63, 64, 65, 127, 128, 255, 256, n / 2, n - 2, n - 1} {
			if k < 0 || k >= n || n < 4 {
				continue
			}
			was := sets[k]
			sets[k] = of(11, 11)
			asTold(t, sets...)
			sets[k] = was
		}
		are(t, row(of(0, 6, 10, top), of(7, 7, 9, 9), of(8, 8)), append(many(n, func(int) []api.Range { return of(7, 9) }), of(8, 8))...)
		are(t, row(of(0, 6, 10, top), of(7, 7, 9, 9), of(8, 8)), append(row(of(8, 8)), many(n, func(int) []api.Range { return of(7, 9) })...)...)
	}
	for _, n := range []int{40, 70, 130, 260} {
		for first := range n {
			// Only both together tell 7, 8 and 9 apart.
			sets := many(n, func(i int) []api.Range { return nil })
			sets[first], sets[n-1-first/2] = of(7, 8), of(8, 9)
			asTold(t, sets...)
		}
	}
}

// TestLong: P5.1, R2, just as many classes as may be, and one more, whichever way they come; and then nothing else is told.
func TestLong(t *testing.T) {
	point := func(i int) []api.Range { return of(2*i, 2*i) }
	side := func(i int) []api.Range { return of(i, i) }
	nested := func(i int) []api.Range { return of(i+1, top) }
	under := func(i int) []api.Range { return of(0, 3*i+1) }
	atTop := func(i int) []api.Range { return of(top-3*i, top-3*i) }
	for k, set := range []func(int) []api.Range{point, side, nested, under, atTop} {
		for _, n := range []int{58, 59} {
			sets := many(n, set)
			if got, e := parts.Of(sets...); e != api.OK || len(got) != n+1 {
				t.Error(k, n, len(got), e)
			}
			asTold(t, sets...)
			slices.Reverse(sets)
			asTold(t, sets...)
			asTold(t, slices.Concat(sets, sets, sets)...)
		}
		for _, n := range []int{60, 61, 62, 63, 64, 100, 200} {
			sets := many(n, set)
			tooMany(t, sets...)
			slices.Reverse(sets)
			tooMany(t, sets...)
			tooMany(t, slices.Concat(row(nil, nil), sets, sets, many(400, func(int) []api.Range { return of(7, 9) }))...)
			tooMany(t, slices.Concat(many(400, func(int) []api.Range { return nil }), sets)...)
		}
	}
	// A pair of points a set is one class: it isn't the pieces that are counted.
	pairs := func(i int) []api.Range { return of(4*i, 4*i, 4*i+2, 4*i+2, 9000-4*i, 9000-4*i) }
	asTold(t, many(59, pairs)...)
	tooMany(t, many(60, pairs)...)
	points := row(slices.Concat(many(2000, point)...), of(3998, 3998))
	if got, e := parts.Of(points...); e != api.OK || len(got) != 3 || len(got[0]) != 1999 {
		t.Error(len(got), e)
	}
}

// TestLongByFew: P5.1, few sets that tell very many apart: each code point is in the sets of its own binary digits.
func TestLongByFew(t *testing.T) {
	for _, digits := range []int{6, 7, 10, 16} {
		for _, n := range []int{57, 58, 59, 60, 61, 62, 63, 64} {
			sets := make([][]api.Range, digits)
			for c := range n {
				for d := range digits {
					if c>>d&1 == 1 {
						sets[d] = append(sets[d], api.Range{Lo: 100 + 5*c, Hi: 101 + 5*c})
					}
				}
			}
			got, e := parts.Of(sets...)
			if n <= 60 && (e != api.OK || len(got) != n) || n > 60 && (e != api.ErrLong || len(got) > 0) {
				t.Error(digits, n, len(got), e)
			}
			asTold(t, sets...)
		}
	}
}

// TestClass: P5.2, of classes by sets, at all ends.
func TestClass(t *testing.T) {
	l, _ := parts.Of(of('a', 'z'), of('f', 'f'))
	for _, x := range []struct{ c, place int }{
		{0, 0}, {'`', 0}, {'a', 1}, {'e', 1}, {'f', 2}, {'g', 1}, {'z', 1}, {'{', 0}, {top - 1, 0}, {top, 0},
	} {
		if place, is := parts.Class(l, x.c); place != x.place || !is {
			t.Error(x, place, is)
		}
	}
	for _, c := range []int{-1, -2, top + 1, top + 2, math.MinInt, math.MaxInt} {
		if place, is := parts.Class(l, c); place != 0 || is {
			t.Error(c, place, is)
		}
	}
}

// TestClassOfRows: P5.2, of rows that are no classes: the first one that has the code point; what is none none has.
func TestClassOfRows(t *testing.T) {
	l := row(nil, of(9, 7), of(8, 9, 1, 2), of(2, 20), of(-5, 0, top, math.MaxInt), of(0, top), of(7, 7))
	for _, x := range []struct{ c, place int }{
		{1, 2}, {2, 2}, {3, 3}, {7, 3}, {8, 2}, {9, 2}, {10, 3}, {20, 3}, {21, 5}, {0, 4}, {top, 4}, {top - 1, 5},
	} {
		if place, is := parts.Class(l, x.c); place != x.place || !is {
			t.Error(x, place, is)
		}
	}
	for _, c := range []int{-5, -1, top + 1, math.MaxInt, math.MinInt} {
		if place, is := parts.Class(l, c); place != 0 || is {
			t.Error(c, place, is)
		}
	}
	for _, c := range []int{0, 7, 10, 21, top} {
		if place, is := parts.Class(l[:3], c); place != 0 || is {
			t.Error(c, place, is)
		}
		if place, is := parts.Class(nil, c); place != 0 || is {
			t.Error(c, place, is)
		}
	}
}

// TestFirsts: P5.2, of classes, and of rows that are none.
func TestFirsts(t *testing.T) {
	l, _ := parts.Of(of('a', 'z'), of('f', 'f'))
	for _, x := range []struct {
		l    [][]api.Range
		want []int
	}{
		{nil, nil},
		{l, []int{0, 'a', 'f'}},
		{append(slices.Clone(l), nil), []int{0, 'a', 'f', -1}},
		{row(nil), []int{-1}},
		{row(nil, of(0, 0), nil, of(top, top), nil), []int{-1, 0, -1, top, -1}},
		{row(of(9, 7), of(-5, -1), of(top+1, math.MaxInt), of(math.MaxInt, math.MinInt)), []int{-1, -1, -1, -1}},
		{row(of(-5, 4), of(math.MinInt, math.MaxInt), of(top, math.MaxInt), of(math.MinInt, 0)), []int{0, 0, top, 0}},
		{row(of(8, 9, 1, 2), of(8, 9, 3, 1, 5, 6), of(3, 9, 1, 20), of(-9, -1, 7, 7, 6, 6), of(2, 2), of(2, 2)), []int{1, 5, 1, 6, 2, 2}},
	} {
		if got := parts.Firsts(x.l); !slices.Equal(got, x.want) {
			t.Error(x.l, got)
		}
	}
}

// TestWithin: P5.2, of classes and sets, right and wrong ones.
func TestWithin(t *testing.T) {
	l, _ := parts.Of(of('a', 'z'), of('f', 'f'))
	wrong := row(nil, of(9, 7), of(8, 9, 1, 2), of(2, 20), of(-5, 0, top, math.MaxInt), of(0, top), of(30, 40, 7, 7), of(-9, -1, top+1, top+9))
	for _, x := range []struct {
		l    [][]api.Range
		set  []api.Range
		want []int
	}{
		{nil, nil, nil}, {nil, of(0, top), nil}, {l, nil, nil}, {l, of(9, 7), nil}, {l, of(-5, -1), nil}, {l, of(top+1, math.MaxInt), nil}, {l, of(math.MaxInt, math.MinInt), nil},
		{l, of('f', 'g'), []int{1, 2}}, {l, of('f', 'f'), []int{2}}, {l, of('z', '{'), []int{0, 1}}, {l, of('{', '{'), []int{0}}, {l, of('`', '`'), []int{0}}, {l, of('a', 'a'), []int{1}},
		{l, of('e', 'e'), []int{1}}, {l, of('g', 'z'), []int{1}}, {l, of(0, 0), []int{0}}, {l, of(top, top), []int{0}}, {l, of(0, top), []int{0, 1, 2}}, {l, of(math.MinInt, math.MaxInt), []int{0, 1, 2}},
		{l, of('f', 'f', '0', '9'), []int{0, 2}}, {l, of('z', 'z', 'f', 'f', 'f', 'f'), []int{1, 2}}, {l, of('f', 'e', 'q', 'q'), []int{1}}, {l, of(-1, 0), []int{0}}, {l, of(top, top+1), []int{0}},
		{wrong, of(0, top), []int{2, 3, 4, 5, 6}}, {wrong, of(2, 2), []int{2, 3, 5}}, {wrong, of(7, 7), []int{3, 5, 6}}, {wrong, of(7, 8), []int{2, 3, 5, 6}}, {wrong, of(0, 0), []int{4, 5}},
		{wrong, of(top, top), []int{4, 5}}, {wrong, of(21, 29), []int{5}}, {wrong, of(41, top-1), []int{5}}, {wrong, of(40, 41), []int{5, 6}}, {wrong, of(21, 30), []int{5, 6}}, {wrong, of(-9, -1), nil}, {wrong, of(top+1, top+9), nil}, {wrong, nil, nil},
		{wrong, of(50, 60, 1, 1, 3, 2), []int{2, 5}}, {wrong[:2], of(0, top), nil}, {row(of(5, 5), of(5, 5)), of(1, 9), []int{0, 1}},
	} {
		if got := parts.Within(x.l, x.set); !slices.Equal(got, x.want) {
			t.Error(x.l, x.set, got, x.want)
		}
	}
}

// TestRowsOfAllSorts: P5.2, of rows of no special order, held against the chapter's words at all ends.
func TestRowsOfAllSorts(t *testing.T) {
	r := rand.New(rand.NewSource(52))
	for range 3000 {
		l := many(r.Intn(7), func(int) []api.Range { return some(r, 4) })
		set := some(r, 4)
		at := starts(append(slices.Clone(l), set)...)
		var firsts, within []int
		for place, class := range l {
			least := -1
			if i := slices.IndexFunc(at, func(c int) bool { return had(class, c) }); i >= 0 {
				least = at[i]
			}
			firsts = append(firsts, least)
			if slices.ContainsFunc(at, func(c int) bool { return had(class, c) && had(set, c) }) {
				within = append(within, place)
			}
		}
		if got := parts.Firsts(l); !slices.Equal(got, firsts) {
			t.Fatal(l, got, firsts)
		}
		if got := parts.Within(l, set); !slices.Equal(got, within) {
			t.Fatal(l, set, got, within)
		}
		for _, c := range append(at, -1, -5, top, top-1, math.MinInt, math.MaxInt) {
			want := slices.IndexFunc(l, func(class []api.Range) bool { return had(class, c) })
			if place, is := parts.Class(l, c); is != (want >= 0) || place != max(want, 0) {
				t.Fatal(l, c, place, is)
			}
		}
	}
}
