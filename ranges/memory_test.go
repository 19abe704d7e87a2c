package ranges_test

import (
	"slices"
	"testing"

	"tinder/api"
	"tinder/ranges"
)

// behind is what stands behind the end of a row that a call is given.
var behind = of(-77, -78, 31, 32, 4, 4, 40, 50)

// guarded are rows that lie within longer ones: what a call writes, even behind their ends, is seen in the longer ones.
func guarded() (l, whole [][]api.Range) {
	given := [][]api.Range{
		nil, of(3, 4), of(9, 7), of(0, api.MaxPoint), of(1, 2, 4, 4, 6, 9), of(5, 9, 1, 2, 3, 3, 8, 4), of(-5, 2, api.MaxPoint-1, 2*api.MaxPoint), of(9, 9, 8, 8, 7, 7, 1, 20, 30, 30), of(-3, -2, -1, -1),
	}
	for _, row := range given {
		long := append(slices.Clone(row), behind...)
		whole = append(whole, long)
		l = append(l, long[:len(row)])
	}
	return l, whole
}

// answers are all ranges that the calls tell of two rows.
func answers(a, b []api.Range) [][]api.Range {
	return [][]api.Range{
		ranges.Join(a), ranges.Join(a, b), ranges.Join(b, a, a), ranges.Join(a, nil), ranges.Meet(a, b), ranges.Meet(b, a), ranges.Meet(a, a), ranges.Meet(a, of(0, api.MaxPoint)), ranges.Not(a), ranges.Not(b),
	}
}

// ask calls what tells no ranges.
func ask(a []api.Range) {
	ranges.Right(a)
	ranges.Many(a)
	ranges.Least(a)
	ranges.Has(a, 8)
}

// spoil writes into all of a row's memory, up to its capacity.
func spoil(l []api.Range) {
	for i := range l[:cap(l)] {
		l[:cap(l)][i] = api.Range{Lo: 99, Hi: -99}
	}
}

// TestMemory: R3, no row is changed, not even behind its end, and what is handed out is new memory, up to its capacity.
func TestMemory(t *testing.T) {
	l, whole := guarded()
	_, before := guarded()
	for _, a := range l {
		for _, b := range l {
			ask(a)
			for _, got := range answers(a, b) {
				spoil(got)
			}
			for i := range whole {
				if !slices.Equal(whole[i], before[i]) {
					t.Fatal(a, b, whole[i], before[i])
				}
			}
		}
	}
}

// TestNotKept: R3, what is told stays as it is when the rows that were given are written over, and is told anew of what then stands there.
func TestNotKept(t *testing.T) {
	fresh, _ := guarded()
	for i := range fresh {
		for j := range fresh {
			l, whole := guarded()
			ask(l[i])
			first := answers(l[i], l[j])
			for _, row := range whole {
				spoil(row)
			}
			want := answers(fresh[i], fresh[j])
			for k := range want {
				same(t, first[k], want[k], fresh[i], fresh[j], k)
			}
			same(t, ranges.Join(l...), nil)
		}
	}
}

// TestAnswersApart: R3, R4, one thing asked twice is answered alike, in memories apart.
func TestAnswersApart(t *testing.T) {
	l, _ := guarded()
	for _, a := range l {
		for _, b := range l {
			first, second := answers(a, b), answers(a, b)
			for i := range first {
				want := slices.Clone(first[i])
				spoil(first[i])
				same(t, second[i], want, a, b, i)
			}
			for i, again := range answers(a, b) {
				same(t, again, second[i], a, b, i)
			}
		}
	}
}

// TestRowsOfArguments: R3, the rows themselves that the variadic calls are given are not changed, not even behind their ends, and not kept.
func TestRowsOfArguments(t *testing.T) {
	fresh, _ := guarded()
	rows := append(slices.Clone(fresh), behind, behind)
	join := ranges.Join(rows[:len(fresh)]...)
	want := slices.Clone(join)
	for i, row := range append(slices.Clone(fresh), behind, behind) {
		same(t, rows[i], row, i)
		rows[i] = nil
	}
	same(t, join, want)

	numbers := []int{7, -1, 5, 6, api.MaxPoint + 1, 9, 9, 1, 2, 3}
	points := slices.Clone(numbers)
	set := ranges.Of(points[:7]...)
	same(t, set, of(5, 7, 9, 9))
	if !slices.Equal(points, numbers) {
		t.Error(points)
	}
	clear(points)
	same(t, set, of(5, 7, 9, 9))
	again := ranges.Of(numbers[:7]...)
	spoil(set)
	same(t, again, of(5, 7, 9, 9))
}

// TestNilAndEmpty: R6, rows without ranges are one, nil or not, alone and among others.
func TestNilAndEmpty(t *testing.T) {
	all := of(0, api.MaxPoint)
	a := of(6, 9, 1, 2)
	for _, none := range [][]api.Range{nil, {}, a[:0], of(2, 1)[:0:0]} {
		if !ranges.Right(none) || ranges.Has(none, 0) || ranges.Many(none) != 0 {
			t.Error(none)
		}
		if c, is := ranges.Least(none); c != 0 || is {
			t.Error(c, is)
		}
		same(t, ranges.Join(none), nil)
		same(t, ranges.Join(none, a, none), of(1, 2, 6, 9))
		same(t, ranges.Join(a, none, a), of(1, 2, 6, 9))
		same(t, ranges.Meet(none, a), nil)
		same(t, ranges.Meet(a, none), nil)
		same(t, ranges.Meet(none, none), nil)
		same(t, ranges.Not(none), all)
		same(t, a, of(6, 9, 1, 2))
	}
	same(t, ranges.Join([][]api.Range{}...), nil)
	same(t, ranges.Of([]int{}...), nil)
}
