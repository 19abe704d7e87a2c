package parts_test

import (
	"math"
	"math/rand"
	"slices"
	"testing"

	"tinder/api"
	"tinder/parts"
)

const top = api.MaxPoint

// of is a row of ranges, by their ends.
func of(ends ...int) []api.Range {
	var l []api.Range
	for i := 0; i+1 < len(ends); i += 2 {
		l = append(l, api.Range{Lo: ends[i], Hi: ends[i+1]})
	}
	return l
}

// row is some rows of ranges.
func row(l ...[]api.Range) [][]api.Range { return l }

// pieces are ranges about 0, about each other and about MaxPoint; some have nothing, some reach beyond the ends.
var pieces = of(
	0, 0, 0, 3, 1, 1, 2, 5, 3, 4, 5, 5, 6, 9, 8, 20, 22, 22, 0, 22, 9, 7, 1, 0, 2, -2, 10, 12, 11, 11, 13, 14, 15, 15,
	-1, -1, -5, 0, -9, 4, math.MinInt, -1, math.MinInt, 2, math.MaxInt, math.MinInt,
	top, top, top-1, top, top-4, top-2, 21, top, 0, top, top+1, top+1, top, top+1, top-2, math.MaxInt, top+1, math.MaxInt, math.MinInt, math.MaxInt,
)

// some are up to so many pieces, in no special order.
func some(r *rand.Rand, most int) []api.Range {
	var l []api.Range
	for range r.Intn(most + 1) {
		l = append(l, pieces[r.Intn(len(pieces))])
	}
	return l
}

// had is whether ranges have a number, as chapter 3's words say it.
func had(l []api.Range, c int) bool {
	return c >= 0 && c <= top && slices.ContainsFunc(l, func(r api.Range) bool { return r.Lo <= c && c <= r.Hi })
}

// starts are the code points at which it may change whether ranges have them, rising, and at last one beyond all.
func starts(l ...[]api.Range) []int {
	out := []int{0, top + 1}
	for _, r := range slices.Concat(l...) {
		if r.Lo > 0 && r.Lo <= top {
			out = append(out, r.Lo)
		}
		if r.Hi >= 0 && r.Hi < top {
			out = append(out, r.Hi+1)
		}
	}
	slices.Sort(out)
	return slices.Compact(out)
}

// alike is whether two numbers are in the same ones of some sets, as the chapter's words say it.
func alike(sets [][]api.Range, c, d int) bool {
	return !slices.ContainsFunc(sets, func(set []api.Range) bool { return had(set, c) != had(set, d) })
}

// wanted are the classes by some sets, as the chapter's words say it: between two of the starts all code points are of one class.
func wanted(sets [][]api.Range) [][]api.Range {
	var out [][]api.Range
	at := starts(sets...)
	for i, c := range at[:len(at)-1] {
		k := slices.IndexFunc(out, func(class []api.Range) bool { return alike(sets, c, class[0].Lo) })
		if k < 0 {
			k = len(out)
			out = append(out, nil)
		}
		if n := len(out[k]); n > 0 && out[k][n-1].Hi == c-1 {
			out[k][n-1].Hi = at[i+1] - 1
		} else {
			out[k] = append(out[k], api.Range{Lo: c, Hi: at[i+1] - 1})
		}
	}
	return out
}

// equal is whether rows of ranges are the same.
func equal(a, b [][]api.Range) bool {
	return slices.EqualFunc(a, b, func(x, y []api.Range) bool { return slices.Equal(x, y) })
}

// are fails unless the classes by some sets are those that are wanted.
func are(t *testing.T, want [][]api.Range, sets ...[]api.Range) {
	t.Helper()
	if got, e := parts.Of(sets...); e != api.OK || !equal(got, want) {
		t.Fatal("got", got, e, "want", want, "of", sets)
	}
}

// asTold fails unless the classes by some sets are those that the chapter's words say.
func asTold(t *testing.T, sets ...[]api.Range) {
	t.Helper()
	want := wanted(sets)
	if len(want) > 60 {
		tooMany(t, sets...)
		return
	}
	are(t, want, sets...)
}

// tooMany fails unless there are too many classes by some sets, and nothing else is told.
func tooMany(t *testing.T, sets ...[]api.Range) {
	t.Helper()
	if got, e := parts.Of(sets...); e != api.ErrLong || len(got) > 0 {
		t.Fatal("got", got, e, "of", sets)
	}
}
