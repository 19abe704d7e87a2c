package kind_test

import (
	"testing"

	"tinder/api"
	"tinder/early"
	"tinder/kind"
)

// read is the tree of a pattern, which must be one.
func read(t testing.TB, text string) api.Tree {
	t.Helper()
	x, at, e := early.Read(text, api.Flags{}, api.Tables{})
	if e != api.OK {
		t.Fatalf("%q: %v at %d", text, e, at)
	}
	return x
}

// TestExamples: the chapter's examples.
func TestExamples(t *testing.T) {
	has(t, read(t, "(a|bc){2,3}"), 2, 6)
	has(t, read(t, "a*"), 0, -1)
	becomes(t, read(t, "a++"), seq(repeat(1, -1, greedy, a()), probe()))
	overless(t, read(t, "(?<=a*)"))
	loads(t, read(t, "(?<=aa(?:b|b))"), 7, 1)
	loads(t, read(t, "(?=aa(?:b|b))"), 5, 1)
	becomes(t, read(t, "(?<=aa(?:b|b))"), asks(8))
}

// TestLengths: P12.1, the lengths of each kind of node.
func TestLengths(t *testing.T) {
	x := repeat(2, 5, lazy, a())
	has(t, empty(), 0, 0)
	has(t, set(), 1, 1)
	has(t, a(), 1, 1)
	has(t, set(0, top), 1, 1)
	has(t, set('a', 'a', 'x', 'z'), 1, 1)
	for k := api.SpotStart; k <= api.SpotInner; k++ {
		has(t, spot(k), 0, 0)
	}
	has(t, x, 2, 5)
	has(t, seq(x, a(), x), 5, 11)
	has(t, seq(x, star(a()), x), 4, -1)
	has(t, seq(star(a()), star(a())), 0, -1)
	has(t, seq(star(a()), a()), 1, -1)
	has(t, alt(x, a(), x), 1, 5)
	has(t, alt(a(), x), 1, 5)
	has(t, alt(x, repeat(3, 4, greedy, a())), 2, 5)
	has(t, alt(repeat(3, 4, greedy, a()), x), 2, 5)
	has(t, alt(x, empty()), 0, 5)
	has(t, alt(x, star(a())), 0, -1)
	has(t, alt(repeat(7, -1, own, a()), x, a()), 1, -1)
	has(t, unnamed(group(1, x)), 2, 5)
	has(t, atomic(x), 2, 5)
	has(t, atomic(star(x)), 0, -1)
	for _, not := range []bool{false, true} {
		has(t, ahead(not, x), 0, 0)
		has(t, behind(not, x), 0, 0)
		has(t, ahead(not, star(a())), 0, 0)
		has(t, behind(not, star(a())), 0, 0)
	}
	// What refers may be as long as it will, even where its group is not.
	has(t, unnamed(seq(group(1, a()), back(1))), 1, -1)
	has(t, unnamed(seq(group(1, empty()), back(1))), 0, -1)
	has(t, unnamed(alt(group(1, seqs(3, a())), back(1))), 0, -1)
}

// TestRepeats: P12.1, the lengths of repeats: 0 times anything, and any times nothing, is 0.
func TestRepeats(t *testing.T) {
	for _, mode := range []api.ModeKind{greedy, lazy, own} {
		many := repeat(2, 5, greedy, a())
		has(t, repeat(0, 0, mode, many), 0, 0)
		has(t, repeat(0, 1, mode, many), 0, 5)
		has(t, repeat(1, 1, mode, many), 2, 5)
		has(t, repeat(3, 4, mode, many), 6, 20)
		has(t, repeat(1000, 1000, mode, many), 2000, 5000)
		has(t, repeat(0, -1, mode, many), 0, -1)
		has(t, repeat(3, -1, mode, many), 6, -1)
		has(t, repeat(0, 0, mode, star(a())), 0, 0)
		has(t, repeat(0, 1, mode, star(a())), 0, -1)
		has(t, repeat(2, 3, mode, repeat(1, -1, mode, many)), 4, -1)
		has(t, repeat(0, -1, mode, star(a())), 0, -1)
		for _, none := range []api.Tree{empty(), start(), ahead(false, star(a())), repeat(0, 0, greedy, star(a()))} {
			has(t, repeat(0, 0, mode, none), 0, 0)
			has(t, repeat(0, -1, mode, none), 0, 0)
			has(t, repeat(7, -1, mode, none), 0, 0)
			has(t, repeat(7, 1000, mode, none), 0, 0)
		}
		has(t, repeat(0, -1, mode, alt(empty(), a())), 0, -1)
		has(t, repeat(5, -1, mode, alt(empty(), a())), 0, -1)
	}
}

// TestSpreadLengths: P12.1, the lengths of what only spread trees have; these are of no other use here.
func TestSpreadLengths(t *testing.T) {
	for _, c := range []struct {
		x           api.Tree
		least, most int
	}{
		{fresh(seq(a(), a())), 2, 2}, {fresh(empty()), 0, 0}, {fresh(star(a())), 0, -1}, {fresh(seq(star(a()), a())), 1, -1},
		{try(greedy, a()), 0, 1}, {try(lazy, seq(a(), a())), 0, 2}, {try(greedy, star(a())), 0, -1}, {try(greedy, empty()), 0, 0},
		{try(greedy, a(), a()), 0, 2}, {try(lazy, a(), try(lazy, a(), try(lazy, a()))), 0, 3}, {try(greedy, seqs(3, a()), seqs(4, a())), 0, 7},
		{try(greedy, a(), star(a())), 0, -1}, {try(greedy, star(a()), a()), 0, -1}, {try(lazy, star(a()), star(a())), 0, -1}, {try(lazy, empty(), empty()), 0, 0}, {try(lazy, empty(), star(empty())), 0, 0},
		{seq(fresh(a()), try(greedy, a(), a()), a()), 2, 4}, {alt(fresh(seqs(3, a())), try(greedy, a())), 0, 3},
		{named(fresh(group(1, a())), "n"), 1, 1}, {named(seq(group(2, a()), group(1, a()), group(1, back(2))), "", "n", ""), 2, -1}, {named(fresh(a()), "", ""), 1, 1},
	} {
		has(t, c.x, c.least, c.most)
		if got := answerOf(c.x); got.plain || got.loaded || got.is {
			t.Error(shown(c.x), shown(got))
		}
	}
	// What is neither has none: counted repeats below what only spread trees have, groups of no names.
	for _, x := range []api.Tree{fresh(repeat(1, 1, greedy, a())), seq(try(greedy, a()), repeat(0, -1, own, a())), seq(fresh(a()), repeat(0, 1, lazy, a())), fresh(group(1, a())), fresh(named(group(1, a()), "1")), try(own, a()), try(greedy, a(), a(), a()), of(api.NodeFresh, a(), a())} {
		has(t, x, 0, 0)
	}
}

// TestPlain: P12.1, which trees are plain.
func TestPlain(t *testing.T) {
	plain := []api.Tree{
		empty(), a(), set(), start(), spot(api.SpotEnd), spot(api.SpotWord), spot(api.SpotInner), seq(a(), a()), alt(a(), empty()), named(group(1, a()), ""), named(group(1, a()), "n"),
		star(a()), repeat(0, -1, lazy, a()), repeat(3, 1000, greedy, a()), repeat(0, 0, lazy, a()), read(t, `^(?:(a|\b[^]*?){2,}(?<n>x)|)$`),
	}
	for _, x := range plain {
		if !kind.Plain(x) {
			t.Error(shown(x))
		}
		alike(t, x)
	}
	parts := []api.Tree{atomic(a()), repeat(0, -1, own, a()), repeat(1, 1, own, empty()), ahead(false, a()), ahead(true, a()), behind(false, a()), behind(true, a())}
	for _, x := range append(parts, named(seq(group(1, a()), back(1)), "")) {
		for _, u := range []api.Tree{x, named(seq(a(), x, a()), x.Names...), named(alt(a(), x), x.Names...), named(star(x), x.Names...), named(repeat(0, 0, lazy, x), x.Names...)} {
			if kind.Plain(u) {
				t.Error(shown(u))
			}
			alike(t, u)
		}
	}
	for _, x := range parts {
		if u := unnamed(group(1, x)); kind.Plain(u) {
			t.Error(shown(u))
		}
	}
}

// TestLoad: P12.1, the load of each kind of node.
func TestLoad(t *testing.T) {
	x := alt(a(), a(), empty()) // 2 and 3
	loads(t, empty(), 0, 1)
	loads(t, a(), 1, 1)
	loads(t, set(), 1, 1)
	loads(t, start(), 1, 1)
	loads(t, unnamed(seq(group(1, empty()), back(1))), 1, 1)
	loads(t, x, 2, 3)
	loads(t, alt(x, a(), x, empty()), 5, 8)
	loads(t, seq(x, a()), 5, 3)
	loads(t, seq(a(), x), 3, 3)
	loads(t, seq(x, x), 8, 9)
	loads(t, seq(x, x, a()), 17, 9)
	loads(t, seq(empty(), x, empty()), 2, 3)
	loads(t, unnamed(group(1, x)), 2, 3)
	loads(t, atomic(x), 3, 1)
	loads(t, atomic(atomic(x)), 4, 1)
	for _, not := range []bool{false, true} {
		loads(t, ahead(not, x), 3, 1)
		loads(t, behind(not, x), 3, 1)
	}
	for _, text := range []string{"a*", "a+", "a{3,}?", "a*+", "(?:a*)", "(a*)", "a*|b", "a(?:b|c*)", "(?>a*)", "(?=a*)", "(?!a*)", "(?<=a*)", "(?<!a*)", "(?:a*){0}", "(?:a*){0,0}?", "(?:a*){0}+", "(?:(?:a*){0}){0}", "(?:a*){2}", "(?:){0,}", "a(?=b(?>c(d*)))"} {
		loadless(t, read(t, text))
	}
}

// TestLoadRepeats: P12.1, the load of repeats.
func TestLoadRepeats(t *testing.T) {
	x := alt(a(), a(), empty()) // 2 and 3
	for _, c := range []struct {
		from, to     int
		kid          api.Tree
		probes, ways int
	}{
		{0, 0, a(), 0, 1}, {0, 0, x, 0, 1}, {1, 1, a(), 1, 1}, {2, 2, a(), 2, 1}, {200, 200, a(), 200, 1}, {1000, 1000, empty(), 0, 1}, {7, 7, empty(), 0, 1},
		{0, 1, a(), 2, 2}, {0, 2, a(), 4, 3}, {0, 3, a(), 6, 4}, {1, 2, a(), 3, 2}, {2, 3, a(), 4, 2}, {2, 5, a(), 8, 4}, {0, 1, empty(), 1, 2}, {0, 2, empty(), 2, 3}, {1, 3, empty(), 2, 3},
		{1, 1, x, 2, 3}, {2, 2, x, 8, 9}, {3, 3, x, 26, 27}, {0, 1, x, 5, 4}, {0, 2, x, 20, 13}, {1, 2, x, 17, 12}, {2, 3, x, 53, 36}, {1, 3, x, 62, 39},
	} {
		for _, mode := range []api.ModeKind{greedy, lazy} {
			loads(t, repeat(c.from, c.to, mode, c.kid), c.probes, c.ways)
		}
		for _, x := range []api.Tree{repeat(c.from, c.to, own, c.kid), behind(false, repeat(c.from, c.to, greedy, c.kid))} {
			if c.probes == 200 {
				loadless(t, x)
			} else {
				loads(t, x, c.probes+1, 1)
			}
		}
	}
}

// TestLoadSides: P12.1, which way a sequence is gone through: the innermost look alone tells it.
func TestLoadSides(t *testing.T) {
	two := alt(a(), a())                    // 2 and 2
	x := seq(a(), a(), two)                 // 4 and 2; towards the left 6 and 2
	y := seq(two, a(), x)                   // (4, 2) and then (4, 2); towards the left (6, 2), and then (1, 1), (2, 2)
	z := seq(a(), two, a(), ahead(true, x)) // (5, 2) and then (5, 1); towards the left that one first
	loads(t, x, 4, 2)
	loads(t, y, 12, 4)
	loads(t, z, 15, 2)
	loads(t, behind(true, x), 7, 1)
	loads(t, behind(true, y), 13, 1)
	loads(t, behind(true, z), 11, 1)
	loads(t, ahead(true, x), 5, 1)
	loads(t, behind(false, ahead(false, x)), 6, 1)
	loads(t, ahead(false, behind(false, x)), 8, 1)
	loads(t, behind(false, ahead(false, behind(false, x))), 9, 1)
	loads(t, ahead(false, behind(false, ahead(false, x))), 7, 1)
	// What else stands between changes nothing.
	loads(t, behind(false, deepWithin(x)), 10, 1)
	loads(t, ahead(false, deepWithin(x)), 8, 1)
	loads(t, ahead(false, behind(false, deepWithin(x))), 11, 1)
	loads(t, behind(false, ahead(false, deepWithin(x))), 9, 1)
	// Behind a look it is as it was ahead of it.
	loads(t, seq(behind(false, empty()), x), 5, 2)
	loads(t, behind(false, seq(ahead(false, empty()), x)), 9, 1)
	loads(t, behind(false, alt(ahead(false, x), x)), 5+6+1, 1)
	loads(t, ahead(false, alt(behind(false, x), x)), 7+4+1, 1)
	// A repeat is as it is, whichever way.
	loads(t, behind(false, repeat(1, 2, greedy, two)), 10+1, 1)
	loads(t, repeat(1, 2, greedy, two), 2+2*4, 6)
	// And so it is with what becomes of a look.
	becomes(t, behind(true, x), asks(8))
	becomes(t, behind(true, y), asks(12+4))
	becomes(t, ahead(true, behind(true, x)), alt(seq(asks(8), set()), empty()))
	becomes(t, behind(true, ahead(true, x)), asks(6))
	becomes(t, behind(true, ahead(true, behind(true, x))), asks(9))
	becomes(t, behind(true, behind(true, x)), asks(8))
}

// deepWithin is a tree within an atomic part, of which one way is left, in a choice, in a repeat.
func deepWithin(x api.Tree) api.Tree {
	return repeat(1, 1, lazy, alt(a(), atomic(repeat(1, 1, own, x)), empty()))
}

// TestOver: P12.2, what becomes of each kind of node.
func TestOver(t *testing.T) {
	x := unnamed(group(1, seq(a(), start()))) // becomes u
	u := seq(a(), start())
	one := func(above func(api.Tree) api.Tree) api.Tree { return unnamed(above(x)) }
	for _, leaf := range []api.Tree{empty(), set(), a(), set('a', 'c', 'x', top), start(), spot(api.SpotEnd), spot(api.SpotWord), spot(api.SpotInner)} {
		becomes(t, leaf, leaf)
	}
	becomes(t, x, u)
	becomes(t, named(x, "n"), u)
	becomes(t, unnamed(group(1, group(2, group(3, a())))), a())
	becomes(t, unnamed(seq(x, empty(), a())), seq(u, empty(), a()))
	becomes(t, unnamed(seq(a(), x)), seq(a(), u))
	becomes(t, unnamed(alt(x, empty(), a())), alt(u, empty(), a()))
	becomes(t, unnamed(alt(a(), x)), alt(a(), u))
	for _, c := range [][2]int{{0, -1}, {0, 0}, {3, -1}, {2, 7}, {1000, 1000}} {
		for _, mode := range []api.ModeKind{greedy, lazy} {
			becomes(t, one(func(x api.Tree) api.Tree { return repeat(c[0], c[1], mode, x) }), repeat(c[0], c[1], mode, u))
		}
		becomes(t, one(func(x api.Tree) api.Tree { return repeat(c[0], c[1], own, x) }), seq(repeat(c[0], c[1], greedy, u), probe()))
	}
	becomes(t, one(atomic), seq(u, probe()))
	for _, not := range []bool{false, true} {
		becomes(t, one(func(x api.Tree) api.Tree { return ahead(not, x) }), alt(seq(u, set()), empty()))
		becomes(t, one(func(x api.Tree) api.Tree { return behind(not, x) }), asks(2+1))
		becomes(t, behind(not, empty()), asks(0+1))
		becomes(t, behind(not, alt(a(), a(), empty())), asks(2+3))
		becomes(t, behind(not, repeat(0, 2, own, a())), asks(5+1))
	}
	becomes(t, unnamed(seq(x, back(1))), seq(u, seq(probe(), anything())))
	becomes(t, unnamed(alt(group(1, back(1)), star(back(1)))), alt(seq(probe(), anything()), star(seq(probe(), anything()))))
	becomes(t, unnamed(alt(group(1, a()), behind(false, back(1)))), alt(a(), asks(1+1)))
	// One within the other.
	becomes(t, atomic(repeat(2, 3, own, atomic(a()))), seq(seq(repeat(2, 3, greedy, seq(a(), probe())), probe()), probe()))
	becomes(t, ahead(true, ahead(false, behind(true, a()))), alt(seq(alt(seq(asks(2), set()), empty()), set()), empty()))
	becomes(t, seq(atomic(a()), ahead(false, empty()), star(behind(true, empty()))), seq(seq(a(), probe()), alt(seq(empty(), set()), empty()), star(asks(1))))
	// What is in a look back, of which there would be nothing else, stands nowhere.
	becomes(t, behind(true, behind(false, atomic(a()))), asks(3+1))
	for _, text := range []string{"(?<=a*)", "(?<!a+)", "(?<=(?:a*){0})", "a(?<=b|c*)", "(?:(?<=a*))*", "(?=(?<!a*))", "(?>(?<=a{1,}))", "(?<=(?=a*))", "(?<=(?<=a*))", "(?:a|(?<=a*+)){0}", "((?<!a*))++", `(?<=\b(?:)*)`, "(?<=a{0,101})", "(?<!a{201})"} {
		overless(t, read(t, text))
	}
}
