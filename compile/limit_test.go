package compile_test

import (
	"slices"
	"testing"

	"tinder/api"
	"tinder/tree"
)

// parts are trees of each sort, without groups, and how many instructions they become.
func parts() map[string]struct {
	x   api.Tree
	ops int
} {
	ahead := tree.Join(api.Node{Kind: api.NodeAhead, Not: true}, a())
	return map[string]struct {
		x   api.Tree
		ops int
	}{
		"set":              {a(), 1},
		"spot":             {spot(api.SpotEnd), 1},
		"sequence":         {seqs(3, a()), 3},
		"choice":           {of(api.NodeAlt, a(), a()), 4},
		"choice of three":  {of(api.NodeAlt, a(), empty(), a()), 6},
		"repeat":           {repeat(0, -1, greedy, a()), 5},
		"repeat of none":   {repeat(0, -1, lazy, empty()), 4},
		"repeat of repeat": {repeat(0, -1, lazy, repeat(0, -1, greedy, a())), 9},
		"own repeat":       {repeat(0, -1, own, a()), 7},
		"rounds":           {times(7, a()), 7},
		"no rounds":        {times(0, a()), 0},
		"own rounds":       {repeat(3, 3, own, a()), 5},
		"try":              {repeat(0, 1, greedy, a()), 4},
		"tries":            {repeat(0, 3, lazy, a()), 12},
		"rounds, tries":    {repeat(2, 4, greedy, a()), 10},
		"rounds, and any":  {repeat(2, -1, greedy, a()), 7},
		"atomic":           {of(api.NodeAtomic, a()), 3},
		"ahead":            {ahead, 3},
		"behind":           {of(api.NodeBehind, seqs(2, a())), 4},
	}
}

// filled is a row of a tree, so many times, and of as many sets more as make so many instructions of it, with the end.
func filled(x api.Tree, ops, many, all int) api.Tree {
	kids := slices.Repeat([]api.Tree{x}, many)
	return of(api.NodeSeq, append(kids, slices.Repeat([]api.Tree{a()}, all-1-many*ops)...)...)
}

// TestMostInstructions: P15.1, as many instructions as there may be, one less and one more, by each way that they come about.
func TestMostInstructions(t *testing.T) {
	t.Parallel()
	for name, part := range parts() {
		long(t, part.x, part.ops+1)
		for all := 1999; all <= 2001; all++ {
			long(t, filled(part.x, part.ops, 1, all), all)
			if part.ops > 0 {
				long(t, filled(part.x, part.ops, 1900/part.ops, all), all)
			}
		}
		if t.Failed() {
			t.Fatal(name)
		}
	}
	// With groups: each has two instructions of its own, and one that forgets it in each round.
	for ops, x := range map[int]api.Tree{3: group(1, a()), 4: times(1, group(1, a())), 16: times(4, group(1, a())), 8: repeat(0, -1, greedy, group(1, a())), 12: repeat(1, -1, lazy, group(1, a())), 13: repeat(1, 2, own, group(1, a())), 5: of(api.NodeSeq, group(1, a()), back(1), back(1))} {
		for all := 1999; all <= 2001; all++ {
			long(t, named(filled(x, ops, 1, all), ""), all)
		}
	}
}

// TestMostRounds: P15.1, counts whose program is just not too great, and just too great, be what they become too great or not.
func TestMostRounds(t *testing.T) {
	t.Parallel()
	for name, c := range map[string]struct {
		x   func(n int) api.Tree
		ops func(n int) int
		at  int // the greatest number whose program is not too great
	}{
		"rounds of two":    {func(n int) api.Tree { return times(n, seqs(2, a())) }, func(n int) int { return 2*n + 1 }, 999},
		"own rounds":       {func(n int) api.Tree { return repeat(n, n, own, seqs(3, a())) }, func(n int) int { return 3*n + 3 }, 665},
		"rounds of four":   {func(n int) api.Tree { return times(n, of(api.NodeAlt, a(), a())) }, func(n int) int { return 4*n + 1 }, 499},
		"tries":            {func(n int) api.Tree { return repeat(0, n, greedy, a()) }, func(n int) int { return 4*n + 1 }, 499},
		"tries of none":    {func(n int) api.Tree { return repeat(0, n, lazy, empty()) }, func(n int) int { return 3*n + 1 }, 666},
		"tries of a group": {func(n int) api.Tree { return named(repeat(0, n, greedy, group(1, a())), "n") }, func(n int) int { return 7*n + 1 }, 285},
		"fresh rounds":     {func(n int) api.Tree { return named(times(n, group(1, a())), "n") }, func(n int) int { return 4*n + 1 }, 499},
		"rounds of rounds": {func(n int) api.Tree { return times(n, times(n, a())) }, func(n int) int { return n*n + 1 }, 44},
		"tries of tries":   {func(n int) api.Tree { return repeat(0, n, greedy, repeat(0, n, greedy, a())) }, func(n int) int { return n*(4*n+3) + 1 }, 21},
		"looks back":       {func(n int) api.Tree { return of(api.NodeBehind, repeat(n, n+2, greedy, seqs(3, a()))) }, func(n int) int { return 3*n + 15 }, 661},
		"choice":           {func(n int) api.Tree { return of(api.NodeAlt, slices.Repeat([]api.Tree{a()}, n)...) }, func(n int) int { return 3*n - 1 }, 667},
		"sets":             {func(n int) api.Tree { return seqs(n, a()) }, func(n int) int { return n + 1 }, 1999},
		"repeats":          {func(n int) api.Tree { return seqs(n, repeat(0, -1, greedy, a())) }, func(n int) int { return 5*n + 1 }, 399},
	} {
		for n := c.at - 1; n <= c.at+1; n++ {
			if (c.ops(n) <= 2000) != (n <= c.at) {
				t.Fatal(name, n, c.ops(n))
			}
			long(t, c.x(n), c.ops(n))
		}
	}
}

// TestMostNodes: P15.1, what becomes too great a tree is too great, however short its program were; as many nodes as there may be are not.
func TestMostNodes(t *testing.T) {
	t.Parallel()
	long(t, seqs(3999, empty()), 1)
	refuses(t, seqs(4000, empty()))
	long(t, seqs(3999, a()), 4000)
	five := seqs(4, empty())
	long(t, times(1000, empty()), 1)
	long(t, times(799, five), 1)
	if got := plainly(t, times(800, five)); got.e != api.ErrSize {
		t.Error(shown(got))
	}
	// All is gone through of what no round is left of, and nothing is left of that.
	far := a()
	for range 50 {
		far = times(1000, far)
	}
	if got := plainly(t, far); got.e != api.ErrSize {
		t.Error(shown(got))
	}
	long(t, times(0, far), 1)
	long(t, times(1000, of(api.NodeSeq, times(0, far), empty())), 1)
}

// TestDeepest: P15.1, P15.2, trees 60 deep, and what is deeper when it is spread.
func TestDeepest(t *testing.T) {
	t.Parallel()
	for deep := 57; deep <= 61; deep++ {
		x, y, z, v := a(), a(), group(1, a()), a()
		for range deep - 1 {
			x, y, v = of(api.NodeAtomic, x), repeat(0, -1, lazy, y), of(api.NodeBehind, v)
		}
		for range deep - 2 {
			z = repeat(1, 1, own, z)
		}
		if deep > 60 {
			refuses(t, x)
			refuses(t, y)
			refuses(t, named(z, ""))
			refuses(t, v)
			continue
		}
		long(t, x, 2*(deep-1)+2)
		long(t, y, 4*(deep-1)+2)
		long(t, named(z, ""), 3*(deep-2)+4)
		long(t, v, 2*(deep-1)+2)
	}
	got := plainly(t, repeat(0, 499, lazy, a()))
	if got.e != api.OK || got.p.Marks != 499 {
		t.Error(shown(got))
	}
}

// TestMostGroups: P15.1, all groups that there may be, forgotten in each round that has them.
func TestMostGroups(t *testing.T) {
	t.Parallel()
	var row []api.Tree
	names := make([]string, 20)
	within := a()
	for n := range 20 {
		row = append(row, group(n+1, a()))
		within = repeat(0, -1, greedy, group(20-n, within))
	}
	got := plainly(t, named(repeat(0, -1, greedy, of(api.NodeSeq, row...)), names...))
	if forget := got.p.Ops[2]; forget.Kind != api.OpForget || forget.Num != 1 || forget.Else != 20 {
		t.Error(shown(got))
	}
	got = plainly(t, named(within, names...))
	if got.p.Groups != 20 || got.p.Marks != 20 {
		t.Error(shown(got))
	}
	for n := range 20 {
		if forget := got.p.Ops[4*n+2]; forget.Kind != api.OpForget || forget.Num != n+1 || forget.Else != 20 {
			t.Error(n, shown(forget))
		}
	}
	refuses(t, named(of(api.NodeSeq, append(row, group(21, a()))...), make([]string, 21)...))
}

// TestWideSets: P15.1, sets as wide as they may be, as often as they come.
func TestWideSets(t *testing.T) {
	t.Parallel()
	var ranges []api.Range
	for i := range 2000 {
		ranges = append(ranges, api.Range{Lo: 3 * i, Hi: 3*i + 1})
	}
	x := set(ranges...)
	long(t, x, 2)
	long(t, of(api.NodeBehind, times(3, x)), 6)
	got := answerOf(times(1000, x), api.Flags{}, api.Tables{})
	if got.e != api.OK || len(got.p.Ops) != 1001 || !slices.Equal(got.p.Ops[999].Set, ranges) {
		t.Error(got.e, len(got.p.Ops))
	}
	refuses(t, set(append(ranges, api.Range{Lo: 6000, Hi: 6000})...))
}
