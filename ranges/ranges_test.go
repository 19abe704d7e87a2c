package ranges_test

import (
	"math"
	"math/rand"
	"slices"
	"testing"

	"tinder/api"
	"tinder/ranges"
)

const top = api.MaxPoint

// of is a row of ranges, by their ends.
func of(ends ...int) []api.Range {
	var l []api.Range
	for i := 0; i+1 < len(ends); i += 2 {
		l = append(l, api.Range{Lo: ends[i], Hi: ends[i+1]})
	}
	return l
}

// pieces are ranges about 0, about each other and about MaxPoint; some have nothing, some reach beyond the ends.
var pieces = of(
	0, 0, 0, 3, 1, 1, 2, 5, 3, 4, 5, 5, 6, 9, 8, 20, 22, 22, 0, 22, 9, 7, 1, 0, 2, -2,
	-1, -1, -5, 0, -9, 4, math.MinInt, -1, math.MinInt, 2, math.MaxInt, math.MinInt,
	top, top, top-1, top, top-4, top-2, 21, top, 0, top, top+1, top+1, top, top+1, top-2, math.MaxInt, top+1, math.MaxInt, math.MinInt, math.MaxInt,
)

// rows are ranges of no special order: none, each piece, two and two of them, and some of more.
func rows() [][]api.Range {
	l := [][]api.Range{nil}
	for _, a := range pieces {
		l = append(l, []api.Range{a})
		for _, b := range pieces {
			l = append(l, []api.Range{a, b})
		}
	}
	return append(l, longer(60)...)
}

// longer are so many rows of three to nine pieces.
func longer(many int) [][]api.Range {
	r := rand.New(rand.NewSource(3))
	var l [][]api.Range
	for range many {
		var row []api.Range
		for range 3 + r.Intn(7) {
			row = append(row, pieces[r.Intn(len(pieces))])
		}
		l = append(l, row)
	}
	return l
}

// had is whether ranges have a number, as the chapter's words say it.
func had(l []api.Range, c int) bool {
	return c >= 0 && c <= top && slices.ContainsFunc(l, func(r api.Range) bool { return r.Lo <= c && c <= r.Hi })
}

// starts are the code points at which it may change whether ranges have them, rising, and at last one beyond all.
func starts(l ...[]api.Range) []int {
	out := []int{0, top + 1}
	for _, r := range slices.Concat(l...) {
		if r.Lo > 0 && r.Lo <= top {
			out = append(out, r.Lo)
		}
		if r.Hi >= 0 && r.Hi < top {
			out = append(out, r.Hi+1)
		}
	}
	slices.Sort(out)
	return slices.Compact(out)
}

// wanted is the set of those code points of which is says yes; between two of the starts it says the same of all.
func wanted(starts []int, is func(c int) bool) []api.Range {
	var l []api.Range
	for i, c := range starts[:len(starts)-1] {
		hi := starts[i+1] - 1
		if !is(c) {
			continue
		}
		if n := len(l); n > 0 && l[n-1].Hi == c-1 {
			l[n-1].Hi = hi
		} else {
			l = append(l, api.Range{Lo: c, Hi: hi})
		}
	}
	return l
}

// set is what a row has.
func set(l []api.Range) []api.Range {
	return wanted(starts(l), func(c int) bool { return had(l, c) })
}

// same fails unless ranges are those that are wanted.
func same(t *testing.T, got, want []api.Range, what ...any) {
	t.Helper()
	if !slices.Equal(got, want) {
		t.Fatal("got", got, "want", want, "of", what)
	}
}

// TestRight: P3.1, of ranges that are a set, and of ones of which one thing is wrong.
func TestRight(t *testing.T) {
	for _, l := range [][]api.Range{
		nil, {}, of(0, 0), of(0, top), of(top, top), of(5, 9), of(0, 0, 2, 2), of(1, 2, 4, 4), of(0, 5, 7, 7, 9, 20, 22, top), of(0, top-2, top, top),
	} {
		if !ranges.Right(l) {
			t.Error(l)
		}
	}
	for _, l := range [][]api.Range{
		of(1, 0), of(9, 7), of(0, -1), of(top, top-1), of(-1, 0), of(-1, -1), of(-2, 5), of(math.MinInt, 3), of(math.MinInt, math.MinInt), of(math.MinInt, math.MaxInt),
		of(top, top+1), of(top+1, top+1), of(0, math.MaxInt), of(math.MaxInt, math.MaxInt), of(math.MaxInt, math.MinInt), of(math.MaxInt, math.MaxInt, math.MinInt, math.MinInt),
		of(1, 2, 3, 4), of(1, 2, 2, 4), of(1, 2, 1, 2), of(1, 9, 3, 4), of(3, 4, 1, 9), of(5, 9, 1, 2), of(4, 4, 2, 2), of(0, 0, 1, 1),
		of(1, 2, 4, 3), of(1, 2, 4, 2, 9, 9), of(4, 2, 9, 9), of(0, 0, 2, 2, 4, 4, 5, 5), of(0, 0, 2, 2, 2, 2, 9, 9), of(0, top, top, top), of(0, top, top+2, top+2), of(0, 3, -4, -2), of(-4, -2, 0, 3),
	} {
		if ranges.Right(l) {
			t.Error(l)
		}
	}
}

// TestRightOfRows: P3.1, just those ranges are right that are what the set of what they have is.
func TestRightOfRows(t *testing.T) {
	for _, l := range rows() {
		if got, want := ranges.Right(l), slices.Equal(l, set(l)); got != want {
			t.Fatal(l, got)
		}
	}
}

// TestHas: P3.1, of numbers about all ends, and of what is no code point.
func TestHas(t *testing.T) {
	for _, l := range rows() {
		asked := []int{math.MinInt, math.MinInt + 1, -6, -5, -2, -1, 12, 70000, top - 1, top + 2, math.MaxInt - 1, math.MaxInt}
		for _, c := range starts(l) {
			asked = append(asked, c-1, c, c+1)
		}
		for _, c := range asked {
			if got := ranges.Has(l, c); got != had(l, c) {
				t.Fatal(l, c, got)
			}
		}
	}
}

// TestMany: P3.1, each code point counts once.
func TestMany(t *testing.T) {
	for _, x := range []struct {
		l []api.Range
		n int
	}{
		{nil, 0}, {of(9, 7), 0}, {of(-5, -1, top+1, math.MaxInt), 0}, {of(0, 0), 1}, {of(top, top), 1}, {of(0, top), top + 1}, {of(math.MinInt, math.MaxInt), top + 1},
		{of(5, 9, 1, 2, 3, 3, 8, 4), 8}, {of(1, 5, 1, 5), 5}, {of(1, 9, 3, 4), 9}, {of(3, 4, 1, 9), 9}, {of(-3, 3), 4}, {of(top-3, top+3), 4}, {of(0, top, 0, top, 5, 6), top + 1},
	} {
		if n := ranges.Many(x.l); n != x.n {
			t.Error(x.l, n, x.n)
		}
	}
	for _, l := range rows() {
		want := 0
		for _, r := range set(l) {
			want += r.Hi - r.Lo + 1
		}
		if n := ranges.Many(l); n != want {
			t.Fatal(l, n, want)
		}
	}
}

// TestLeast: P3.1, wherever the least one stands, and of none.
func TestLeast(t *testing.T) {
	for _, x := range []struct {
		l  []api.Range
		c  int
		is bool
	}{
		{nil, 0, false}, {of(9, 7), 0, false}, {of(-5, -1), 0, false}, {of(top+1, math.MaxInt), 0, false}, {of(math.MaxInt, math.MinInt), 0, false},
		{of(0, 0), 0, true}, {of(top, top), top, true}, {of(top, math.MaxInt), top, true}, {of(math.MinInt, 4), 0, true}, {of(5, 9, 1, 2), 1, true}, {of(3, 2, 5, 9), 5, true}, {of(-7, -2, 8, 8, 7, 7), 7, true},
	} {
		if c, is := ranges.Least(x.l); c != x.c || is != x.is {
			t.Error(x.l, c, is)
		}
	}
	for _, l := range rows() {
		want := 0
		s := set(l)
		if len(s) > 0 {
			want = s[0].Lo
		}
		if c, is := ranges.Least(l); c != want || is != (len(s) > 0) {
			t.Fatal(l, c, is)
		}
	}
}

// TestJoin: P3.2.
func TestJoin(t *testing.T) {
	same(t, ranges.Join(), nil)
	same(t, ranges.Join(nil, nil), nil)
	same(t, ranges.Join(of(1, 3), of(4, 4, 9, 7, 2, 3)), of(1, 4))
	same(t, ranges.Join(of(5, 9, 1, 2, 3, 3, 8, 4)), of(1, 3, 5, 9))
	same(t, ranges.Join(of(1, 9), of(2, 3), of(5, 6)), of(1, 9))
	same(t, ranges.Join(of(1, 9), of(2, 3), of(9, 12), of(14, 14)), of(1, 12, 14, 14))
	same(t, ranges.Join(of(1, 2, 4, 5), of(3, 3)), of(1, 5))
	same(t, ranges.Join(of(4, 5, 1, 2)), of(1, 2, 4, 5))
	same(t, ranges.Join(of(-9, -1), of(top+1, math.MaxInt)), nil)
	same(t, ranges.Join(of(math.MinInt, 0), of(top, math.MaxInt)), of(0, 0, top, top))
	same(t, ranges.Join(of(0, top), of(0, top)), of(0, top))
	for _, l := range rows() {
		same(t, ranges.Join(l), set(l), l)
	}
}

// TestJoinOfMany: P3.2, whichever way ranges are in one row or in several.
func TestJoinOfMany(t *testing.T) {
	l := longer(300)
	for i, a := range l {
		for many := range 6 {
			some := l[max(0, i-many) : i+1]
			same(t, ranges.Join(some...), set(slices.Concat(some...)), some)
		}
		var each [][]api.Range
		for _, r := range a {
			each = append(each, []api.Range{r}, nil)
		}
		same(t, ranges.Join(each...), set(a), a)
	}
}

// TestOf: P3.2, of numbers in any order, more than once, and such as are no code points.
func TestOf(t *testing.T) {
	for _, x := range []struct {
		points []int
		want   []api.Range
	}{
		{nil, nil}, {[]int{-1}, nil}, {[]int{top + 1}, nil}, {[]int{math.MinInt, -2, top + 2, math.MaxInt}, nil},
		{[]int{5, 4, -1, 6}, of(4, 6)}, {[]int{0}, of(0, 0)}, {[]int{top}, of(top, top)}, {[]int{top, 0}, of(0, 0, top, top)},
		{[]int{7, 5, 6, 9, 9, top + 1}, of(5, 7, 9, 9)}, {[]int{3, 3, 3}, of(3, 3)}, {[]int{1, 3, 5}, of(1, 1, 3, 3, 5, 5)}, {[]int{2, 1, -1, 0, top - 1, top, top + 1}, of(0, 2, top-1, top)},
		{[]int{0xD7FF, 0xD800, 0xDFFF, 0xDFFE}, of(0xD7FF, 0xD800, 0xDFFE, 0xDFFF)},
	} {
		same(t, ranges.Of(x.points...), x.want, x.points)
	}
	r := rand.New(rand.NewSource(7))
	for range 2000 {
		var points []int
		var l []api.Range
		for range r.Intn(12) {
			c := r.Intn(14) - 2
			if r.Intn(3) == 0 {
				c += top - 8
			}
			points = append(points, c)
			l = append(l, api.Range{Lo: c, Hi: c})
		}
		same(t, ranges.Of(points...), set(l), points)
	}
}

// TestMeet: P3.2.
func TestMeet(t *testing.T) {
	all := of(0, top)
	for _, x := range []struct{ a, b, want []api.Range }{
		{nil, nil, nil}, {nil, all, nil}, {all, all, all}, {of(math.MinInt, math.MaxInt), of(math.MinInt, math.MaxInt), all},
		{of(5, 9, 1, 2, 3, 3, 8, 4), of(2, 6, 9, 20), of(2, 3, 5, 6, 9, 9)}, {of(1, 4), of(5, 9), nil}, {of(1, 5), of(5, 9), of(5, 5)}, {of(1, 9), of(3, 4, 6, 6), of(3, 4, 6, 6)},
		{of(-9, -1), of(-9, -1), nil}, {of(top+1, top+5), of(top, top+9), nil}, {of(-5, 0), of(-1, 9), of(0, 0)}, {of(top-1, math.MaxInt), of(top, top+1), of(top, top)}, {of(9, 7), all, nil},
		{of(1, 2, 3, 4), of(2, 3), of(2, 3)}, {of(1, 1, 3, 3, 5, 5), of(2, 2, 4, 4), nil}, {of(1, 1, 3, 3, 5, 5), of(1, 5), of(1, 1, 3, 3, 5, 5)},
	} {
		same(t, ranges.Meet(x.a, x.b), x.want, x.a, x.b)
		same(t, ranges.Meet(x.b, x.a), x.want, x.b, x.a)
	}
	l := rows()
	for i, a := range l {
		for j := i % 7; j < len(l); j += 7 {
			b := l[j]
			want := wanted(starts(a, b), func(c int) bool { return had(a, c) && had(b, c) })
			same(t, ranges.Meet(a, b), want, a, b)
		}
	}
}

// TestNot: P3.2.
func TestNot(t *testing.T) {
	all := of(0, top)
	for _, x := range []struct{ a, want []api.Range }{
		{nil, all}, {of(9, 7), all}, {of(-5, -1, top+1, math.MaxInt), all}, {all, nil}, {of(math.MinInt, math.MaxInt), nil},
		{of(5, 9, 1, 2, 3, 3, 8, 4), of(0, 0, 4, 4, 10, top)}, {of(0, 0), of(1, top)}, {of(top, top), of(0, top-1)}, {of(0, 0, top, top), of(1, top-1)}, {of(5, 5), of(0, 4, 6, top)},
		{of(6, 9, 0, 5), of(10, top)}, {of(1, 9, 3, 4), of(0, 0, 10, top)}, {of(-3, 3, top-3, top+3), of(4, top-4)}, {of(0, 1, 3, top), of(2, 2)}, {of(1, top), of(0, 0)}, {of(0, top-1), of(top, top)},
	} {
		same(t, ranges.Not(x.a), x.want, x.a)
	}
	for _, a := range rows() {
		same(t, ranges.Not(a), wanted(starts(a), func(c int) bool { return !had(a, c) }), a)
	}
}

// TestEveryCodePoint: P3.1 and P3.2, all code points one by one, and some numbers beyond them.
func TestEveryCodePoint(t *testing.T) {
	a := of(70000, 80000, -4, 9, top-5, top+5, 75000, 90000, 12, 11)
	b := of(80001, 200000, 5, 6, 0xD800, 0xDFFF, math.MinInt, 0, top, math.MaxInt)
	join, meet, not := ranges.Join(a, b), ranges.Meet(a, b), ranges.Not(a)
	var points []int
	for c := -50; c <= top+50; c++ {
		inA, inB := had(a, c), had(b, c)
		if ranges.Has(a, c) != inA || ranges.Has(join, c) != (inA || inB) || ranges.Has(meet, c) != (inA && inB) || ranges.Has(not, c) != (c >= 0 && c <= top && !inA) {
			t.Fatal(c)
		}
		if inA {
			points = append(points, c)
		}
	}
	if n := ranges.Many(a); n != len(points) {
		t.Error(n, len(points))
	}
	same(t, ranges.Of(points...), ranges.Join(a))
	slices.Reverse(points)
	same(t, ranges.Of(points...), ranges.Join(a))
}

// shuffled are rows in another order, and the ranges of each in another one.
func shuffled(r *rand.Rand, l [][]api.Range) [][]api.Range {
	var out [][]api.Range
	for _, k := range r.Perm(len(l)) {
		row := slices.Clone(l[k])
		r.Shuffle(len(row), func(i, j int) { row[i], row[j] = row[j], row[i] })
		out = append(out, row)
	}
	return out
}

// TestNoOrder: P3.3, Join and Meet hang on no order, of ranges and of arguments.
func TestNoOrder(t *testing.T) {
	r := rand.New(rand.NewSource(11))
	l := longer(200)
	for i, a := range l {
		some := l[max(0, i-3) : i+1]
		two := [][]api.Range{some[0], a}
		join, meet := ranges.Join(some...), ranges.Meet(some[0], a)
		for range 4 {
			other := shuffled(r, some)
			same(t, ranges.Join(other...), join, other)
			other = shuffled(r, two)
			same(t, ranges.Meet(other[0], other[1]), meet, other)
			same(t, ranges.Meet(other[1], other[0]), meet, other)
		}
	}
}

// TestWhatFollows: P3.3, and that all that is told as ranges is right.
func TestWhatFollows(t *testing.T) {
	l := rows()
	for i, a := range l {
		same(t, ranges.Not(ranges.Not(a)), ranges.Join(a), a)
		same(t, ranges.Join(ranges.Join(a)), ranges.Join(a), a)
		if ranges.Many(a)+ranges.Many(ranges.Not(a)) != top+1 {
			t.Fatal(a)
		}
		for j := i % 11; j < len(l); j += 11 {
			b := l[j]
			join, meet := ranges.Join(a, b), ranges.Meet(a, b)
			same(t, ranges.Not(join), ranges.Meet(ranges.Not(a), ranges.Not(b)), a, b)
			same(t, ranges.Not(meet), ranges.Join(ranges.Not(a), ranges.Not(b)), a, b)
			if !ranges.Right(join) || !ranges.Right(meet) || !ranges.Right(ranges.Not(join)) {
				t.Fatal(a, b)
			}
			if ranges.Many(a)+ranges.Many(b) != ranges.Many(join)+ranges.Many(meet) {
				t.Fatal(a, b)
			}
		}
	}
}

// TestOneRow: P3.3, two sets that have the same are the same ranges, whatever they were made of.
func TestOneRow(t *testing.T) {
	l := rows()
	for i, a := range l {
		s := ranges.Join(a)
		var points []int
		for _, r := range s {
			for c := r.Lo; c <= r.Hi && ranges.Many(a) < 200; c++ {
				points = append(points, c)
			}
		}
		if len(points) > 0 {
			same(t, ranges.Of(points...), s, a)
		}
		same(t, ranges.Meet(a, of(0, top)), s, a)
		same(t, ranges.Meet(a, a), s, a)
		same(t, ranges.Join(a, nil, s, of(top, 0)), s, a)
		same(t, ranges.Join(ranges.Meet(a, l[len(l)-1-i]), ranges.Meet(a, ranges.Not(l[len(l)-1-i]))), s, a)
	}
}

// TestGreat: R1, R7, rows of very many ranges come to an end, in whatever order these are.
func TestGreat(t *testing.T) {
	const many = 1 << 18
	var a, b, want []api.Range
	for i := range many {
		a = append(a, api.Range{Lo: 4 * i, Hi: 4*i + 1})
		b = append(b, api.Range{Lo: 4*i + 1, Hi: 4*i + 2})
		want = append(want, api.Range{Lo: 4*i + 1, Hi: 4*i + 1})
	}
	nested := slices.Repeat(of(0, top, 5, 6), many)
	for range 2 {
		same(t, ranges.Meet(a, b), want)
		if l := ranges.Join(a, b); len(l) != many || l[many-1] != (api.Range{Lo: 4 * (many - 1), Hi: 4*many - 2}) {
			t.Fatal(len(l))
		}
		if n := ranges.Many(append(slices.Clone(a), a...)); n != 2*many {
			t.Fatal(n)
		}
		if l := ranges.Not(a); len(l) != many || l[0] != (api.Range{Lo: 2, Hi: 3}) || l[many-1].Hi != top {
			t.Fatal(len(l))
		}
		if c, is := ranges.Least(b); c != 1 || !is {
			t.Fatal(c, is)
		}
		same(t, ranges.Join(nested, a), of(0, top))
		slices.Reverse(a)
		slices.Reverse(b)
		slices.Reverse(nested)
	}
}
