package fold_test

import (
	"math/rand"
	"slices"
	"testing"

	"tinder/api"
	"tinder/fold"
	"tinder/ranges"
)

// some are tables of all sorts.
func some() []api.Tables {
	l := []api.Tables{{}, letters(), ends(), {Folds: folds(1, 5, 2, 5, 3, 5, 7, 0)}, {Folds: folds(1, 2, 2, 3)}}
	r := rand.New(rand.NewSource(8))
	for range 300 {
		l = append(l, random(r))
	}
	return l
}

// TestAlike: P4.4, each code point is of one row, whose canon is one of it: a canon's canon is itself.
func TestAlike(t *testing.T) {
	for _, x := range append(some(), unicodes()) {
		for _, f := range append(foldsOf(x), folds(0, 0, top, top, 'x', 'x')...) {
			for _, c := range []int{f.From, f.To} {
				one := fold.Canon(x, c)
				if fold.Canon(x, one) != one {
					t.Fatal(x, c)
				}
				// The row is what closes the code point, and the same for each one of it.
				row := fold.Close(x, of(c, c))
				same(t, fold.Close(x, of(one, one)), row, c)
				if !ranges.Has(row, c) || !ranges.Has(row, one) {
					t.Fatal(x, c)
				}
				for _, r := range row {
					for d := r.Lo; d <= r.Hi; d++ {
						if fold.Canon(x, d) != one {
							t.Fatal(x, c, d)
						}
					}
				}
			}
		}
	}
}

// TestLeastClosed: P4.4, what Close tells is right, has the sets, is closed, and without any row that no set has.
func TestLeastClosed(t *testing.T) {
	r := rand.New(rand.NewSource(12))
	for _, x := range some() {
		for range 20 {
			a := row(r, r.Intn(5))
			got := fold.Close(x, a)
			if !ranges.Right(got) {
				t.Fatal(x, a, got)
			}
			same(t, ranges.Meet(got, a), ranges.Join(a), x, a)
			same(t, fold.Close(x, got), got, x, a)
			same(t, ranges.Not(got), fold.Close(x, ranges.Not(got)), x, a)
			for _, f := range foldsOf(x) {
				alike := fold.Close(x, of(f.To, f.To))
				if inner := ranges.Meet(got, alike); len(inner) > 0 {
					same(t, inner, alike, x, a)
					same(t, fold.Close(x, ranges.Meet(a, alike)), alike, x, a)
				}
			}
		}
	}
}

// TestJoin: P4.4, of a join Close tells the join, in whatever order and grouping.
func TestJoin(t *testing.T) {
	r := rand.New(rand.NewSource(16))
	for _, x := range some() {
		for range 10 {
			a, b, c := row(r, r.Intn(4)), row(r, r.Intn(4)), row(r, r.Intn(4))
			want := ranges.Join(fold.Close(x, a), fold.Close(x, b), fold.Close(x, c))
			same(t, fold.Close(x, a, b, c), want, x, a, b, c)
			same(t, fold.Close(x, c, a, b), want, x, a, b, c)
			same(t, fold.Close(x, ranges.Join(a, b, c)), want, x, a, b, c)
			same(t, fold.Close(x, slices.Concat(c, b, a)), want, x, a, b, c)
		}
	}
}

// TestUnicode: P4.1, P4.2, P4.4, of tables as they are in use: every code point, and all sets that have names.
func TestUnicode(t *testing.T) {
	x := unicodes()
	if len(x.Folds) < 1000 || len(x.Props) < 150 {
		t.Fatal(len(x.Folds), len(x.Props))
	}
	to := map[int]int{}
	alike := map[int][]int{}
	for _, f := range x.Folds {
		to[f.From] = f.To
		alike[f.To] = append(alike[f.To], f.From)
	}
	for c := -9; c <= top+9; c++ {
		// To ask all others as well would take long, and they are like these.
		if _, is := to[c]; !is && alike[c] == nil && c > 0x3000 && c < top-20 && c%97 > 0 {
			continue
		}
		want := c
		if d, is := to[c]; is {
			want = d
		}
		if got := fold.Canon(x, c); got != want {
			t.Fatalf("%x: %x, want %x", c, got, want)
		}
	}
	bare := api.Tables{Folds: x.Folds}
	for _, p := range x.Props {
		var more []int
		for one, row := range alike {
			row = append(row, one)
			if slices.ContainsFunc(row, func(c int) bool { return ranges.Has(p.Set, c) }) {
				more = append(more, row...)
			}
		}
		same(t, fold.Close(bare, p.Set), ranges.Join(p.Set, ranges.Of(more...)), p.Name)
	}
}

// TestGreat: R1, R7, tables and sets with very much come to an end.
func TestGreat(t *testing.T) {
	const rows = 1 << 17
	var x, far, one api.Tables
	var set []api.Range
	for i := range rows {
		x.Folds = append(x.Folds, api.Fold{From: 2 * i, To: 2*i + 1})
		far.Folds = append(far.Folds, api.Fold{From: i, To: top - i})
		one.Folds = append(one.Folds, api.Fold{From: i, To: top})
		set = append(set, api.Range{Lo: 4 * i, Hi: 4 * i})
	}
	slices.Reverse(set)
	if !fold.Right(x) || !fold.Right(far) || !fold.Right(one) {
		t.Error("right")
	}
	if fold.Canon(x, 2*rows-2) != 2*rows-1 || fold.Canon(far, 7) != top-7 || fold.Canon(one, rows-1) != top {
		t.Error("canon")
	}
	if l := fold.Close(x, set); len(l) != rows || l[0] != (api.Range{Lo: 0, Hi: 1}) || l[1] != (api.Range{Lo: 4, Hi: 5}) {
		t.Error(len(l), l[:2])
	}
	same(t, fold.Close(far, of(5, 6)), of(5, 6, top-6, top-5))
	same(t, fold.Close(one, of(5, 6)), of(0, rows-1, top, top))
	x.Props = []api.Prop{{Name: "A", Set: set}}
	if fold.Right(x) || fold.Canon(x, 0) != 0 {
		t.Error("a set of too many ranges")
	}
}
