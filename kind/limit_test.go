package kind_test

import (
	"slices"
	"testing"

	"tinder/api"
	"tinder/tree"
)

// long is a tree whose least and most length is a number, from 0 to 2^31.
func long(n int) api.Tree {
	switch {
	case n == 0:
		return empty()
	case n <= 1000:
		return repeat(n, n, greedy, a())
	case n%512 == 0:
		return repeat(512, 512, lazy, long(n/512))
	}
	return seq(repeat(512, 512, own, long(n/512)), long(n%512))
}

// TestLongest: P12.1, lengths about 2^30: what is above that counts as that.
func TestLongest(t *testing.T) {
	const most = 1 << 30
	for _, n := range []int{0, 1, 511, 512, 513, 1000, 1001, 1 << 20, most - 513, most - 512, most - 2, most - 1, most, most + 1, most + 512, most + most - 1, most + most} {
		want := min(n, most)
		has(t, long(n), want, want)
		has(t, seq(long(n), a()), min(n+1, most), min(n+1, most))
		has(t, seq(a(), long(n), long(n)), min(2*n+1, most), min(2*n+1, most))
		has(t, alt(long(n), empty()), 0, want)
		has(t, alt(long(most-1), long(n)), min(want, most-1), max(want, most-1))
		has(t, alt(long(n), long(most-1)), min(want, most-1), max(want, most-1))
		has(t, alt(long(n), star(a())), 0, -1)
		has(t, unnamed(group(1, long(n))), want, want)
		has(t, atomic(long(n)), want, want)
		has(t, repeat(0, 2, lazy, long(n)), 0, min(2*n, most))
		has(t, repeat(2, 1000, own, long(n)), min(2*n, most), min(1000*n, most))
		has(t, repeat(0, 0, greedy, long(n)), 0, 0)
		has(t, repeat(1000, -1, greedy, long(n)), min(1000*n, most), map[bool]int{true: 0, false: -1}[n == 0])
		has(t, seq(long(n), star(a())), want, -1)
		has(t, seq(star(a()), long(n)), want, -1)
		has(t, seq(long(n), behind(false, long(n)), ahead(true, long(n))), want, want)
		has(t, unnamed(seq(group(1, long(n)), back(1))), want, -1)
	}
	// However far above: each one a thousand times the other.
	for deep := 3; deep <= 58; deep++ {
		x, y := a(), star(a())
		for range deep {
			x, y = repeat(1000, 1000, greedy, x), repeat(0, 1000, greedy, y)
		}
		want := most
		if deep == 3 {
			want = 1000000000
		}
		has(t, x, want, want)
		has(t, seq(x, x), most, most)
		has(t, y, 0, -1)
		has(t, repeat(0, 0, greedy, x), 0, 0)
		has(t, alt(x, a()), 1, want)
	}
}

// TestLongSpread: P12.1, lengths of spread trees of many nodes: wide ones, and rows of tries.
func TestLongSpread(t *testing.T) {
	for n := 2; n <= 1999; n += 399 {
		has(t, fresh(seqs(2*n, a())), 2*n, 2*n)
		x := a()
		for range n {
			x.Nodes = append(x.Nodes, a().Nodes[0], api.Node{Kind: api.NodeTry, Mode: greedy, Kids: []int{len(x.Nodes) - 1, len(x.Nodes)}})
		}
		if !tree.Spread(x) {
			t.Fatal(n)
		}
		has(t, x, 0, 1+n)
	}
}

// TestDeepSpread: P12.1, the lengths of spread trees that are as deep as they have nodes, and of one that has one more.
func TestDeepSpread(t *testing.T) {
	for _, n := range []int{61, 62, 1000, 3999, 4000, 4001} {
		for kind, most := range map[api.NodeKind]int{api.NodeFresh: 2, api.NodeAtomic: 2, api.NodeTry: 2, api.NodeRepeat: -1, api.NodeAhead: 0} {
			// One that is fresh stands below all: so it is no written tree, however deep.
			x := fresh(a())
			x.Nodes = append(x.Nodes, a().Nodes[0], api.Node{Kind: api.NodeSeq, Kids: []int{1, 2}})
			for len(x.Nodes) < n {
				top := api.Node{Kind: kind, Kids: []int{len(x.Nodes) - 1}}
				switch kind {
				case api.NodeTry:
					top.Mode = lazy
				case api.NodeRepeat:
					top.Mode, top.Max = greedy, -1
				}
				x.Nodes = append(x.Nodes, top)
			}
			least := 0
			if kind == api.NodeFresh || kind == api.NodeAtomic {
				least = 2
			}
			if n > 4000 {
				least, most = 0, 0
			}
			if tree.Spread(x) != (n <= 4000) {
				t.Fatal(n, kind)
			}
			has(t, x, least, most)
		}
	}
}

// TestMostLoad: P12.1, loads of 200 probes, of 200 ways, and of one more, by each way that they come about.
func TestMostLoad(t *testing.T) {
	t.Parallel()
	probes := func(n int) api.Tree { return seqs(n, a()) }   // n and 1
	ways := func(n int) api.Tree { return alts(n, empty()) } // 0 and n
	for name, c := range map[string]struct {
		x            func(n int) api.Tree
		probes, ways func(n int) int
	}{
		"sequence":                 {probes, func(n int) int { return n }, one},
		"choice":                   {ways, none, func(n int) int { return n }},
		"choice of sets":           {func(n int) api.Tree { return alts(n, a()) }, func(n int) int { return n }, func(n int) int { return n }},
		"row of repeats":           {func(n int) api.Tree { return repeat(n, n, greedy, a()) }, func(n int) int { return n }, one},
		"tries":                    {func(n int) api.Tree { return repeat(0, n, greedy, empty()) }, func(n int) int { return n }, func(n int) int { return n + 1 }},
		"tries of sets":            {func(n int) api.Tree { return repeat(0, n, lazy, a()) }, func(n int) int { return 2 * n }, func(n int) int { return n + 1 }},
		"tries behind rounds":      {func(n int) api.Tree { return repeat(n, n+1, lazy, a()) }, func(n int) int { return n + 2 }, func(int) int { return 2 }},
		"own":                      {func(n int) api.Tree { return repeat(n, n, own, a()) }, func(n int) int { return n + 1 }, one},
		"own tries":                {func(n int) api.Tree { return repeat(0, n, own, a()) }, func(n int) int { return 2*n + 1 }, one},
		"atomic":                   {func(n int) api.Tree { return atomic(probes(n)) }, func(n int) int { return n + 1 }, one},
		"ahead":                    {func(n int) api.Tree { return ahead(true, probes(n)) }, func(n int) int { return n + 1 }, one},
		"behind":                   {func(n int) api.Tree { return behind(false, probes(n)) }, func(n int) int { return n + 1 }, one},
		"group":                    {func(n int) api.Tree { return unnamed(group(1, probes(n))) }, func(n int) int { return n }, one},
		"ways behind a set":        {func(n int) api.Tree { return seq(a(), ways(n)) }, one, func(n int) int { return n }},
		"a set behind ways":        {func(n int) api.Tree { return seq(ways(n), a()) }, func(n int) int { return n }, func(n int) int { return n }},
		"two ways to go on":        {func(n int) api.Tree { return seq(ways(2), probes(n)) }, func(n int) int { return 2 * n }, func(int) int { return 2 }},
		"two ways behind others":   {func(n int) api.Tree { return seq(ways(n), ways(2)) }, none, func(n int) int { return 2 * n }},
		"two rounds of ways":       {func(n int) api.Tree { return repeat(2, 2, greedy, ways(n)) }, none, func(n int) int { return n * n }},
		"a choice of great loads":  {func(n int) api.Tree { return alt(probes(n), ways(n), a()) }, func(n int) int { return n + 1 }, func(n int) int { return n + 2 }},
		"a choice of equal ones":   {func(n int) api.Tree { return alt(probes(n), probes(n)) }, func(n int) int { return 2 * n }, func(int) int { return 2 }},
		"a try of ways":            {func(n int) api.Tree { return repeat(0, 1, greedy, ways(n)) }, func(n int) int { return n }, func(n int) int { return n + 1 }},
		"a sequence in a sequence": {func(n int) api.Tree { return seq(probes(n), empty(), probes(2)) }, func(n int) int { return n + 2 }, one},
	} {
		for n := 2; n <= 210; n++ {
			if p, w := c.probes(n), c.ways(n); p <= 200 && w <= 200 {
				loads(t, c.x(n), p, w)
			} else {
				loadless(t, c.x(n))
			}
		}
		if t.Failed() {
			t.Fatal(name)
		}
	}
}

func one(int) int { return 1 }

func none(int) int { return 0 }

// TestLoadOnTheWay: P12.1, what is too great on the way has no load, however little is left of it.
func TestLoadOnTheWay(t *testing.T) {
	ways := func(n int) api.Tree { return alts(n, empty()) }
	for _, above := range []func(x api.Tree) api.Tree{
		atomic,
		func(x api.Tree) api.Tree { return ahead(false, x) },
		func(x api.Tree) api.Tree { return behind(true, x) },
		func(x api.Tree) api.Tree { return repeat(1, 1, own, x) },
	} {
		loads(t, above(ways(200)), 1, 1)
		loadless(t, above(ways(201)))
		loads(t, above(repeat(0, 7, greedy, seq(empty(), empty()))), 8, 1)
		loads(t, above(repeat(2, 2, greedy, ways(14))), 1, 1)
		loadless(t, above(repeat(2, 2, greedy, ways(15))))
		loadless(t, above(seq(ways(15), ways(14))))
		// None of it is left, or it is below what none is left of.
		loadless(t, repeat(0, 0, greedy, above(ways(201))))
		loadless(t, above(atomic(ways(201))))
	}
	loads(t, repeat(0, 199, own, empty()), 200, 1)
	loadless(t, repeat(0, 200, own, empty()))
	loads(t, repeat(2, 2, own, ways(14)), 1, 1)
	loadless(t, repeat(2, 2, own, ways(15)))
	loadless(t, repeat(1000, 1000, own, ways(2)))
	loadless(t, repeat(0, 1000, own, star(a())))
	loads(t, repeat(0, 0, own, ways(200)), 1, 1)
	loadless(t, repeat(0, 0, own, ways(201)))
	loadless(t, repeat(0, 0, greedy, star(a())))
	loadless(t, repeat(0, 0, greedy, seqs(201, a())))
	// Great counts of little: rounds that ask nothing; tries, each of which asks whether it took something.
	loads(t, repeat(1000, 1000, greedy, empty()), 0, 1)
	loads(t, repeat(801, 1000, greedy, empty()), 199, 200)
	loadless(t, repeat(800, 1000, greedy, empty()))
}

// TestMostAsked: P12.2, looks back that are as great as they may be, and greater: their kid must have a load, they need have none.
func TestMostAsked(t *testing.T) {
	becomes(t, behind(false, seqs(200, a())), asks(201))
	loadless(t, behind(false, seqs(200, a())))
	overless(t, behind(false, seqs(201, a())))
	becomes(t, behind(true, alts(200, a())), asks(400))
	overless(t, behind(true, alts(201, a())))
	becomes(t, behind(true, alts(200, empty())), asks(200))
	overless(t, behind(true, alts(201, empty())))
	becomes(t, behind(true, atomic(seqs(199, a()))), asks(201))
	overless(t, behind(true, atomic(seqs(200, a()))))
	overless(t, behind(true, behind(true, seqs(200, a()))))
	overless(t, behind(true, ahead(true, seqs(200, a()))))
	becomes(t, ahead(true, behind(true, seqs(200, a()))), alt(seq(asks(201), set()), empty()))
	becomes(t, behind(true, repeat(1000, 1000, own, empty())), asks(2))
	becomes(t, behind(true, repeat(0, 100, lazy, a())), asks(200+101))
	overless(t, behind(true, repeat(0, 101, lazy, a())))
	// What has no load stands in no look back, and is as it is.
	becomes(t, seq(seqs(201, a()), star(a()), behind(true, a()), alts(201, empty())), seq(seqs(201, a()), star(a()), asks(2), alts(201, empty())))
}

// TestMostNodes: P12.2, as many nodes as a tree may have, and one more, of what is told and of what is given.
func TestMostNodes(t *testing.T) {
	x := atomic(a()) // becomes five nodes
	many := func(n int, more ...api.Tree) api.Tree {
		return seq(slices.Concat(slices.Repeat([]api.Tree{x}, n), more)...)
	}
	for more := range 8 {
		y := many(799, slices.Repeat([]api.Tree{a()}, more)...)
		got := alike(t, y)
		if got.is != (3996+more <= 4000) || got.is && len(got.over.Nodes) != 3996+more {
			t.Error(more, got.is, len(got.over.Nodes))
		}
	}
	overless(t, many(800))
	overless(t, many(1999))
	for n, above := range map[int]func(x api.Tree) api.Tree{
		6:   func(x api.Tree) api.Tree { return repeat(0, 1, own, x) },
		4:   func(x api.Tree) api.Tree { return behind(true, x) },
		5:   func(x api.Tree) api.Tree { return alt(ahead(false, x), empty()) },
		103: func(x api.Tree) api.Tree { return behind(true, repeat(100, 100, greedy, x)) },
	} {
		// So many of them that all is just not too great, and just too great.
		x := above(a())
		size := len(alike(t, x).over.Nodes)
		if size < n {
			t.Fatal(n, size)
		}
		for more := range 3 {
			fits := 3999/size - 1 + more
			if got := alike(t, seqs(fits, x)); got.is != (fits*size+1 <= 4000) {
				t.Error(size, fits, got.is)
			}
		}
	}
	for n := 3998; n <= 4001; n++ {
		y := seqs(n-1, a())
		if got := alike(t, y); got.is != (n <= 4000) || got.plain != got.is {
			t.Error(n, got.is)
		}
	}
	// What is too great on the way, and what is far too great.
	overless(t, seq(many(1000), many(900)))
	overless(t, seqs(1300, behind(false, repeat(0, 100, greedy, a()))))
	overless(t, seqs(900, behind(false, repeat(0, 100, greedy, atomic(empty())))))
	// Groups, and what stands in a look back, are no nodes of what is told.
	becomes(t, behind(true, seqs(3900, empty())), asks(1))
	becomes(t, behind(true, seq(seqs(100, empty()), seqs(1800, repeat(1, 1, lazy, empty())))), asks(1))
}

// TestDeepest: P12.2, trees 60 deep, and of which becomes what is deeper or less deep.
func TestDeepest(t *testing.T) {
	for n := 18; n <= 60; n++ {
		for name, c := range map[string]struct {
			above func(x api.Tree) api.Tree
			deep  func(n int) int // what becomes of it
		}{
			"atomic": {atomic, func(n int) int { return n + 1 }},
			"ahead":  {func(x api.Tree) api.Tree { return ahead(true, x) }, func(n int) int { return 2*n - 1 }},
			"behind": {func(x api.Tree) api.Tree { return behind(true, x) }, func(n int) int { return 2 }},
			"own":    {func(x api.Tree) api.Tree { return repeat(1, 1, own, x) }, func(n int) int { return 2*n - 1 }},
			"repeat": {func(x api.Tree) api.Tree { return repeat(1, 1, lazy, x) }, func(n int) int { return n }},
			"seq":    {func(x api.Tree) api.Tree { return seq(x, a()) }, func(n int) int { return n }},
			"alt":    {func(x api.Tree) api.Tree { return alt(a(), x) }, func(n int) int { return n }},
		} {
			x := a()
			for range n - 1 {
				x = c.above(x)
			}
			got := alike(t, x)
			if deep := c.deep(n); tree.Deep(x) != n || got.is != (deep <= 60) || got.is && tree.Deep(got.over) != deep {
				t.Error(name, n, got.is, tree.Deep(got.over))
			}
		}
	}
	// Groups are left out.
	for n := 1; n <= 20; n++ {
		x := a()
		for i := range n {
			x = group(n-i, x)
		}
		becomes(t, unnamed(x), a())
		for range 59 - n {
			x = atomic(x)
		}
		if got := alike(t, unnamed(x)); !got.is || tree.Deep(got.over) != 61-n {
			t.Error(n, got.is, tree.Deep(got.over))
		}
	}
	// What refers becomes three deep.
	for n := 50; n <= 59; n++ {
		x := back(1)
		for range n - 2 {
			x = repeat(1, 1, greedy, x)
		}
		if got := alike(t, unnamed(seq(group(1, a()), x))); got.is != (n+2 <= 60) {
			t.Error(n, got.is)
		}
	}
}
