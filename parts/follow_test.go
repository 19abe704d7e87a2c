package parts_test

import (
	"math/rand"
	"slices"
	"testing"

	"tinder/api"
	"tinder/parts"
	"tinder/ranges"
)

// TestParted: P5.3, the classes are sets, none of them empty, their least ones rise, and each code point is in just one.
func TestParted(t *testing.T) {
	r := rand.New(rand.NewSource(53))
	for range 1500 {
		sets := many(r.Intn(9), func(int) []api.Range { return some(r, 5) })
		l, e := parts.Of(sets...)
		if e != api.OK {
			continue
		}
		var whole []api.Range
		for _, class := range l {
			if !ranges.Right(class) || len(class) == 0 || len(ranges.Meet(whole, class)) > 0 {
				t.Fatal(sets, l)
			}
			whole = ranges.Join(whole, class)
		}
		if !slices.Equal(whole, of(0, top)) {
			t.Fatal(sets, l)
		}
		firsts := parts.Firsts(l)
		if firsts[0] != 0 || !slices.IsSorted(firsts) || len(slices.Compact(slices.Clone(firsts))) != len(l) {
			t.Fatal(sets, firsts)
		}
		for place, c := range firsts {
			if k, is := parts.Class(l, c); k != place || !is {
				t.Fatal(sets, c, k)
			}
		}
	}
}

// TestJoins: P5.3, each set is the join of the classes that have one of its code points; so is each join, meet and rest of sets.
func TestJoins(t *testing.T) {
	r := rand.New(rand.NewSource(54))
	for range 1000 {
		sets := many(1+r.Intn(8), func(int) []api.Range { return some(r, 5) })
		l, e := parts.Of(sets...)
		if e != api.OK {
			continue
		}
		a, b := sets[r.Intn(len(sets))], sets[r.Intn(len(sets))]
		for _, set := range append(sets, ranges.Join(a, b), ranges.Meet(a, b), ranges.Not(a), nil) {
			var some [][]api.Range
			for _, place := range parts.Within(l, set) {
				some = append(some, l[place])
			}
			if got := ranges.Join(some...); !slices.Equal(got, ranges.Join(set)) {
				t.Fatal(sets, set, got)
			}
		}
		// The classes by the sets and by what is made of them are the same, in whatever order the sets come, and so are those by the classes.
		are(t, l, append(sets, ranges.Join(a, b), ranges.Not(a), ranges.Meet(a, b))...)
		slices.Reverse(sets)
		are(t, l, sets...)
		are(t, l, l...)
	}
}

// TestNoSets: P5.3, with no sets there is one class.
func TestNoSets(t *testing.T) {
	are(t, row(of(0, top)))
	are(t, row(of(0, top)), [][]api.Range{}...)
}

// TestGreat: R1, R7, very many sets, and sets of very many ranges, come to an end.
func TestGreat(t *testing.T) {
	const n = 1 << 17
	var even, third []api.Range
	for i := range n {
		even = append(even, api.Range{Lo: 4 * i, Hi: 4*i + 1})
		third = append(third, api.Range{Lo: 6 * i, Hi: 6*i + 2})
	}
	slices.Reverse(third)
	l, e := parts.Of(even, third)
	if e != api.OK || len(l) != 4 || len(l[0]) != 2*n/3 {
		t.Error(len(l), e)
	}
	// Each of the sets has all pieces, or none: to go through them set by set would not end soon.
	sets := many(n, func(i int) []api.Range { return of(0, top-i%3) })
	sets[n/3] = even
	l, e = parts.Of(sets...)
	if e != api.OK || len(l) != 4 || len(l[0]) != n || !slices.Equal(parts.Firsts(l), []int{0, 2, top - 1, top}) {
		t.Error(len(l), e)
	}
	if got := parts.Within(l, even); !slices.Equal(got, []int{0}) {
		t.Error(got)
	}
	tooMany(t, many(n, func(i int) []api.Range { return of(i, 2*i) })...)
	var points [][]api.Range
	for i := range n {
		points = append(points, of(i, i))
	}
	if got := parts.Within(points, even); len(got) != n/2 {
		t.Error(len(got))
	}
	if got := parts.Firsts(points); len(got) != n || got[n-1] != n-1 {
		t.Error(len(got))
	}
	if place, is := parts.Class(points, n-1); place != n-1 || !is {
		t.Error(place, is)
	}
}
