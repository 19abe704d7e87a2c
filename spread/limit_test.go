package spread_test

import (
	"slices"
	"testing"

	"tinder/api"
	"tinder/spread"
	"tinder/tree"
)

// TestMostNodes: P13.1, P13.2, as many nodes as there may be, one more, and one less, by each way that they come about.
func TestMostNodes(t *testing.T) {
	t.Parallel()
	g := group(1, a())
	for name, c := range map[string]struct {
		x    api.Tree
		size int
	}{
		"nothing":             {times(0, a()), 1},
		"own nothing":         {repeat(0, 0, own, a()), 2},
		"rounds":              {times(3, a()), 4},
		"many rounds":         {times(1000, a()), 1001},
		"tries":               {repeat(0, 3, greedy, a()), 6},
		"many tries":          {repeat(0, 300, lazy, a()), 600},
		"rounds and a try":    {repeat(3, 4, greedy, a()), 6},
		"rounds and no end":   {repeat(3, -1, greedy, a()), 6},
		"any rounds":          {star(a()), 2},
		"own rounds":          {repeat(3, 5, own, a()), 9},
		"own, any rounds":     {repeat(0, -1, own, a()), 3},
		"one round":           {times(1, a()), 1},
		"fresh ones":          {times(3, g), 10},
		"one fresh one":       {times(1, g), 3},
		"fresh ones, and any": {repeat(3, -1, lazy, g), 13},
		"fresh ones, and try": {repeat(3, 4, own, g), 14},
		"tries of a group":    {repeat(0, 2, own, g), 7},
		"rounds of rounds":    {times(5, times(3, a())), 21},
		"fresh ones of these": {times(2, times(2, g)), 17},
		"back":                {behind(true, repeat(3, 4, greedy, a())), 7},
	} {
		sized(t, unnamed(c.x), c.size)
		// So many of them that all is just not too great, too great by one, or less than that.
		for many := range 2 {
			fits := max(0, 3900/c.size-many)
			for size := 3999; size <= 4001; size++ {
				if slices.ContainsFunc(c.x.Nodes, func(n api.Node) bool { return n.Kind == api.NodeGroup }) {
					fits = min(fits, 1)
				}
				row := slices.Repeat([]api.Tree{c.x}, fits)
				for len(row) < fits+size-1-fits*c.size {
					row = append(row, empty())
				}
				if y := unnamed(seq(row...)); len(y.Nodes) > 4000 {
					refuses(t, y)
				} else {
					sized(t, y, size)
				}
			}
		}
		if t.Failed() {
			t.Fatal(name)
		}
	}
}

// TestMostRounds: P13.1, P13.2, counts of rounds that are just not too great, and just too great; the last node may be the one that is too much.
func TestMostRounds(t *testing.T) {
	t.Parallel()
	for name, c := range map[string]struct {
		x    func(n int) api.Tree
		size func(n int) int
		at   int // the greatest number whose tree is not too great
	}{
		"rounds of four":       {func(n int) api.Tree { return times(n, times(3, a())) }, func(n int) int { return 4*n + 1 }, 999},
		"own rounds of four":   {func(n int) api.Tree { return repeat(n, n, own, times(3, a())) }, func(n int) int { return 4*n + 2 }, 999},
		"own rounds":           {func(n int) api.Tree { return atomic(repeat(n, n, own, seqs(4, a()))) }, func(n int) int { return 5*n + 3 }, 799},
		"tries of four":        {func(n int) api.Tree { return repeat(0, n, lazy, seq(a(), b(), a())) }, func(n int) int { return 5 * n }, 800},
		"own tries of four":    {func(n int) api.Tree { return repeat(0, n, own, seq(a(), b(), a())) }, func(n int) int { return 5*n + 1 }, 799},
		"rounds and tries":     {func(n int) api.Tree { return repeat(n/2, n, greedy, seq(a(), b(), a())) }, func(n int) int { return n/2*4 + (n-n/2)*5 + 1 }, 888},
		"rounds and any":       {func(n int) api.Tree { return repeat(n, -1, greedy, seq(a(), b(), a())) }, func(n int) int { return 4*n + 6 }, 998},
		"fresh rounds":         {func(n int) api.Tree { return times(n, group(1, star(a()))) }, func(n int) int { return 4*n + 1 }, 999},
		"fresh rounds and any": {func(n int) api.Tree { return repeat(n, -1, greedy, group(1, star(a()))) }, func(n int) int { return 4*n + 5 }, 998},
		"fresh rounds, back":   {func(n int) api.Tree { return behind(false, repeat(n, -1, greedy, group(1, star(a())))) }, func(n int) int { return 4*n + 6 }, 998},
		"rounds of many":       {func(n int) api.Tree { return times(2, seqs(n, a())) }, func(n int) int { return 2*n + 3 }, 1998},
		"rounds of rounds":     {func(n int) api.Tree { return times(n, times(n, a())) }, func(n int) int { return n*n + n + 1 }, 62},
		"tries of tries":       {func(n int) api.Tree { return repeat(0, n, greedy, repeat(0, n, greedy, a())) }, func(n int) int { return n * (2*n + 1) }, 44},
	} {
		for n := c.at - 1; n <= c.at+1; n++ {
			if (c.size(n) <= 4000) != (n <= c.at) {
				t.Fatal(name, n, c.size(n))
			}
			sized(t, unnamed(c.x(n)), c.size(n))
		}
	}
}

// TestFarTooGreat: P13.1, P13.2, R1, what would never come to an end were it written out is too great; where no round is left of it, it is not.
func TestFarTooGreat(t *testing.T) {
	for _, deep := range []int{2, 3, 11, 12, 33, 55} {
		for _, leaf := range []api.Tree{a(), empty(), group(1, a())} {
			x, y, z := leaf, leaf, leaf
			for range deep {
				x, y, z = times(1000, x), repeat(0, 1000, lazy, y), repeat(2, 2, own, z)
			}
			sized(t, unnamed(x), 4001)
			sized(t, unnamed(y), 4001)
			for _, far := range []api.Tree{x, y, z} {
				sized(t, unnamed(times(0, far)), 1)
				sized(t, unnamed(repeat(0, 0, own, far)), 2)
				sized(t, unnamed(times(1000, times(0, far))), 1001)
				sized(t, unnamed(seq(a(), behind(true, repeat(0, 0, lazy, far)), a())), 5)
			}
			if deep > 11 {
				sized(t, unnamed(z), 4001)
			}
		}
	}
}

// TestManyOnes: P13.1, P13.2, R1, repeats of one round within one another: they leave no node, or a fresh one each.
func TestManyOnes(t *testing.T) {
	for _, deep := range []int{1, 2, 30, 57} {
		x, y, z := a(), a(), group(1, a())
		for range deep {
			x, y, z = times(1, x), repeat(1, 1, own, y), times(1, z)
		}
		sized(t, x, 1)
		sized(t, y, 1+deep)
		sized(t, unnamed(z), 2+deep)
		sized(t, times(1000, x), 1001)
		sized(t, times(30, seqs(60, x)), 1831)
		sized(t, unnamed(times(1000, z)), 1000*(3+deep)+1)
	}
}

// TestDeepest: P13.1, P13.3, trees 60 deep, and what becomes of them, however deep that is.
func TestDeepest(t *testing.T) {
	for deep := 57; deep <= 61; deep++ {
		x := repeat(0, 1, lazy, a())
		for range deep - 2 {
			x = atomic(x)
		}
		if tree.Deep(x) != deep {
			t.Fatal(deep)
		}
		if deep > 60 {
			refuses(t, x)
			continue
		}
		got := alike(t, x)
		if got.e != api.OK || tree.Deep(got.out) != deep {
			t.Error(deep, shown(got))
		}
	}
	for _, n := range []int{1, 59, 60, 61, 999, 1000} {
		got := alike(t, repeat(0, n, greedy, a()))
		if got.e != api.OK || tree.Deep(got.out) != n+1 || got.size != 2*n {
			t.Error(n, got.e, tree.Deep(got.out), got.size)
		}
	}
	// As deep as it may be at all: tries one within the other, and that as the first of another.
	x, e := spread.Out(repeat(0, 1, greedy, seq(repeat(0, 1000, lazy, empty()), repeat(0, 998, greedy, empty()))))
	if e != api.OK || len(x.Nodes) != 3998 || tree.Deep(x) != 1003 || !tree.Spread(x) {
		t.Error(e, len(x.Nodes), tree.Deep(x))
	}
}

// TestWideSets: P13.1, sets as wide as they may be, as often as they come.
func TestWideSets(t *testing.T) {
	var ends []int
	for i := range 2000 {
		ends = append(ends, 3*i, 3*i+1)
	}
	x := set(ends...)
	becomes(t, x, x)
	becomes(t, times(3, x), seqs(3, x))
	becomes(t, repeat(1, 2, own, x), atomic(seq(x, try(greedy, x))))
	refuses(t, times(2, set(append(ends, 6000, 6001)...)))
	y, e := spread.Out(times(1000, x))
	if e != api.OK || len(y.Nodes) != 1001 || !slices.Equal(y.Nodes[999].Set, x.Nodes[0].Set) {
		t.Error(e, len(y.Nodes))
	}
}
