package spread_test

import (
	"slices"
	"testing"

	"tinder/api"
	"tinder/early"
	"tinder/spread"
	"tinder/tree"
)

// read is the tree of a pattern, which must be one.
func read(t testing.TB, text string) api.Tree {
	t.Helper()
	x, at, e := early.Read(text, api.Flags{}, api.Tables{})
	if e != api.OK {
		t.Fatalf("%q: %v at %d", text, e, at)
	}
	return x
}

// TestExamples: P13.1, P13.2, the chapter's examples.
func TestExamples(t *testing.T) {
	g := group(1, a())
	becomes(t, read(t, "(a){2}"), named(seq(fresh(g), fresh(g)), ""))
	sized(t, read(t, "(a){2}"), 7)
	becomes(t, read(t, "a{0,2}"), try(greedy, a(), try(greedy, a())))
	sized(t, read(t, "a{0,2}"), 4)
	becomes(t, read(t, "a{0}"), empty())
	becomes(t, read(t, "a{1000}"), seqs(1000, a()))
	sized(t, read(t, "a{1000}"), 1001)
	becomes(t, read(t, "(?<=a+)"), behind(false, seq(star(a()), a())))
}

// TestSame: P13.1, what has no repeats stays as it is, and so do repeats of any number of rounds; the names are the same.
func TestSame(t *testing.T) {
	wide := set('a', 'c', 'x', 'z', top, top)
	for _, x := range []api.Tree{
		empty(), set(), a(), wide, set(0, top), seq(a(), wide), seqs(7, alt(wide, empty(), a())), atomic(a()), ahead(false, wide), ahead(true, a()), behind(false, seq(a(), b())), behind(true, alt(a(), b())),
		spot(api.SpotStart), spot(api.SpotEnd), spot(api.SpotWord), spot(api.SpotInner), star(a()), repeat(0, -1, lazy, wide), star(repeat(0, -1, lazy, star(a()))), behind(true, star(seq(a(), star(wide)))),
		named(group(1, a()), "n"), named(group(1, group(2, seq(back(2), back(1)))), "", "N$_0"), named(seq(star(group(1, star(group(2, a())))), back(1), behind(false, back(2))), "b", "a"), named(alt(back(2), group(1, empty()), group(2, atomic(back(1)))), "", ""),
	} {
		becomes(t, x, x)
		sized(t, x, len(x.Nodes))
	}
}

// TestCounts: P13.1, repeats of each count and mode: copies, and the rest.
func TestCounts(t *testing.T) {
	x := seq(a(), b())
	for _, mode := range []api.ModeKind{greedy, lazy, own} {
		m, whole := mode, func(x api.Tree) api.Tree { return x }
		if mode == own {
			m, whole = greedy, atomic
		}
		is := func(from, to int, want api.Tree) {
			t.Helper()
			becomes(t, repeat(from, to, mode, x), whole(want))
			// Ahead, and in it behind, and in that ahead: the innermost one says which way it is.
			becomes(t, ahead(true, repeat(from, to, mode, x)), ahead(true, whole(want)))
			becomes(t, behind(true, ahead(false, repeat(from, to, mode, x))), behind(true, ahead(false, whole(want))))
		}
		is(0, 0, empty())
		is(0, 1, try(m, x))
		is(0, 2, try(m, x, try(m, x)))
		is(0, 4, try(m, x, try(m, x, try(m, x, try(m, x)))))
		is(1, 1, x)
		is(1, 2, seq(x, try(m, x)))
		is(1, 3, seq(x, try(m, x, try(m, x))))
		is(2, 2, seq(x, x))
		is(3, 3, seq(x, x, x))
		is(3, 4, seq(x, x, x, try(m, x)))
		is(3, 5, seq(x, x, x, try(m, x, try(m, x))))
		is(0, -1, repeat(0, -1, m, x))
		is(1, -1, seq(x, repeat(0, -1, m, x)))
		is(3, -1, seq(x, x, x, repeat(0, -1, m, x)))
	}
}

// TestBehind: P13.1, where the innermost look is a NodeBehind the rest stands first.
func TestBehind(t *testing.T) {
	x := seq(a(), b())
	for _, not := range []bool{false, true} {
		for _, mode := range []api.ModeKind{greedy, lazy, own} {
			m, whole := mode, func(x api.Tree) api.Tree { return x }
			if mode == own {
				m, whole = greedy, atomic
			}
			is := func(from, to int, want api.Tree) {
				t.Helper()
				y := repeat(from, to, mode, x)
				want = whole(want)
				becomes(t, behind(not, y), behind(not, want))
				becomes(t, ahead(not, behind(not, y)), ahead(not, behind(not, want)))
				becomes(t, behind(!not, behind(not, y)), behind(!not, behind(not, want)))
				// What stands between it and the look does not matter, nor what stands beside it.
				becomes(t, named(behind(not, alt(seq(a(), group(1, y)), b())), "n"), named(behind(not, alt(seq(a(), group(1, want)), b())), "n"))
				becomes(t, seq(behind(not, seq(ahead(not, a()), atomic(y))), ahead(not, b())), seq(behind(not, seq(ahead(not, a()), atomic(want))), ahead(not, b())))
				becomes(t, behind(not, repeat(0, -1, lazy, y)), behind(not, repeat(0, -1, lazy, want)))
				becomes(t, behind(not, repeat(2, 3, lazy, y)), behind(not, seq(try(lazy, want), want, want)))
			}
			is(0, 0, empty())
			is(0, 1, try(m, x))
			is(0, 3, try(m, x, try(m, x, try(m, x))))
			is(1, 1, x)
			is(1, 2, seq(try(m, x), x))
			is(1, 3, seq(try(m, x, try(m, x)), x))
			is(3, 3, seq(x, x, x))
			is(3, 5, seq(try(m, x, try(m, x)), x, x, x))
			is(0, -1, repeat(0, -1, m, x))
			is(1, -1, seq(repeat(0, -1, m, x), x))
			is(3, -1, seq(repeat(0, -1, m, x), x, x, x))
		}
	}
	// A look that does not cover it does not matter: one that stands beside it, or in it.
	y := repeat(1, -1, greedy, a())
	right, left := seq(a(), star(a())), seq(star(a()), a())
	becomes(t, seq(behind(false, y), y, ahead(false, y)), seq(behind(false, left), right, ahead(false, right)))
	becomes(t, behind(true, seq(ahead(false, y), y, behind(false, y))), behind(true, seq(ahead(false, right), left, behind(false, left))))
	becomes(t, repeat(1, -1, greedy, behind(false, y)), seq(behind(false, left), star(behind(false, left))))
	becomes(t, behind(false, repeat(1, -1, greedy, ahead(true, y))), behind(false, seq(star(ahead(true, right)), ahead(true, right))))
	becomes(t, behind(true, ahead(true, behind(false, ahead(false, y)))), behind(true, ahead(true, behind(false, ahead(false, right)))))
	becomes(t, ahead(true, behind(true, ahead(false, behind(false, y)))), ahead(true, behind(true, ahead(false, behind(false, left)))))
}

// TestCopies: P13.1, a copy is fresh if it has a group, wherever that stands; rounds of the rest are not.
func TestCopies(t *testing.T) {
	g := group(1, a())
	n := func(x api.Tree) api.Tree { return named(x, "n") }
	for _, x := range []api.Tree{g, atomic(g), star(g), seq(a(), g), seq(g, a()), alt(a(), seq(b(), g)), ahead(true, g), behind(false, atomic(g)), star(star(g))} {
		becomes(t, n(times(1, x)), n(fresh(x)))
		becomes(t, n(times(3, x)), n(seq(fresh(x), fresh(x), fresh(x))))
		becomes(t, n(repeat(0, 1, greedy, x)), n(try(greedy, x)))
		becomes(t, n(repeat(0, 2, lazy, x)), n(try(lazy, x, try(lazy, x))))
		becomes(t, n(repeat(0, -1, lazy, x)), n(repeat(0, -1, lazy, x)))
		becomes(t, n(repeat(1, -1, lazy, x)), n(seq(fresh(x), repeat(0, -1, lazy, x))))
		becomes(t, n(repeat(1, -1, own, x)), n(atomic(seq(fresh(x), star(x)))))
		becomes(t, n(repeat(1, 2, lazy, x)), n(seq(fresh(x), try(lazy, x))))
		becomes(t, n(behind(true, repeat(2, 3, lazy, x))), n(behind(true, seq(try(lazy, x), fresh(x), fresh(x)))))
		becomes(t, n(behind(true, repeat(1, -1, own, x))), n(behind(true, atomic(seq(star(x), fresh(x))))))
	}
	// What refers is no group; nor is a group that stands beside it.
	becomes(t, n(seq(g, times(2, back(1)))), n(seq(g, seq(back(1), back(1)))))
	becomes(t, n(seq(times(2, g), times(2, a()), b())), n(seq(seq(fresh(g), fresh(g)), seq(a(), a()), b())))
	becomes(t, n(times(2, alt(a(), seq(times(2, g), times(2, b()))))), n(seqs(2, fresh(alt(a(), seq(seqs(2, fresh(g)), seqs(2, b())))))))
	// Copies of copies, of which each one is fresh.
	becomes(t, n(times(1, times(1, times(1, g)))), n(fresh(fresh(fresh(g)))))
	becomes(t, n(times(2, repeat(1, 2, own, g))), n(seqs(2, fresh(atomic(seq(fresh(g), try(greedy, g)))))))
	becomes(t, n(times(2, repeat(0, 1, own, g))), n(seqs(2, fresh(atomic(try(greedy, g))))))
	// A group of no rounds is left out, and with it what would be fresh.
	becomes(t, n(times(0, g)), n(empty()))
	becomes(t, n(times(2, seq(a(), times(0, g)))), n(seqs(2, seq(a(), empty()))))
	becomes(t, n(times(1, repeat(0, 0, own, g))), n(atomic(empty())))
	becomes(t, n(seq(repeat(0, 0, lazy, seq(g, a())), back(1))), n(seq(empty(), back(1))))
	becomes(t, named(times(2, seq(times(0, g), group(2, b()))), "m", "n"), named(seqs(2, fresh(seq(empty(), group(2, b())))), "m", "n"))
	// Groups come again with their numbers, and keep them.
	x := seq(group(2, back(3)), group(3, back(1)))
	becomes(t, named(seq(g, repeat(2, 3, lazy, x)), "a", "", "c"), named(seq(g, seq(fresh(x), fresh(x), try(lazy, x))), "a", "", "c"))
	becomes(t, named(group(1, times(2, group(2, times(2, group(3, a()))))), "a", "", "c"), named(group(1, seqs(2, fresh(group(2, seqs(2, fresh(group(3, a()))))))), "a", "", "c"))
}

// TestParts: P13.1, what stands above repeats, and in them, is what it was.
func TestParts(t *testing.T) {
	for _, kid := range []api.Tree{empty(), set(), set('a', 'c', 'x', 'z'), spot(api.SpotInner), atomic(b()), ahead(true, b()), ahead(false, b()), behind(true, b()), behind(false, b()), alt(a(), b()), repeat(0, -1, lazy, b())} {
		x := repeat(2, 3, lazy, kid)
		want := seq(kid, kid, try(lazy, kid))
		becomes(t, x, want)
		becomes(t, seq(kid, x, x, kid), seq(kid, want, want, kid))
		becomes(t, alt(x, kid, kid), alt(want, kid, kid))
		becomes(t, atomic(x), atomic(want))
		becomes(t, ahead(true, x), ahead(true, want))
		becomes(t, ahead(false, x), ahead(false, want))
		becomes(t, named(seq(group(1, x), group(2, kid), back(2)), "n", ""), named(seq(group(1, want), group(2, kid), back(2)), "n", ""))
		becomes(t, repeat(0, -1, lazy, x), repeat(0, -1, lazy, want))
		becomes(t, repeat(1, -1, greedy, x), seq(want, star(want)))
		becomes(t, repeat(1, 2, own, x), atomic(seq(want, try(greedy, want))))
		becomes(t, times(0, x), empty())
		becomes(t, times(1, x), want)
		becomes(t, times(3, x), seqs(3, want))
	}
}

// TestPatterns: P13.1, patterns, and those that mean the same in a spread tree's words.
func TestPatterns(t *testing.T) {
	for text, want := range map[string]api.Tree{
		"a?":               try(greedy, a()),
		"a??":              try(lazy, a()),
		"a?+":              atomic(try(greedy, a())),
		"a+":               seq(a(), star(a())),
		"a+?":              seq(a(), repeat(0, -1, lazy, a())),
		"a++":              atomic(seq(a(), star(a()))),
		"a*+":              atomic(star(a())),
		"a{2,}b":           seq(seq(a(), a(), star(a())), b()),
		"(?:ab){2}":        seqs(2, seq(a(), b())),
		"(?:a{2}b?){2}":    seqs(2, seq(seq(a(), a()), try(greedy, b()))),
		"(?:a{2}){3}":      seqs(3, seqs(2, a())),
		"(?<=a{1,2}b+?)":   behind(false, seq(seq(try(greedy, a()), a()), seq(repeat(0, -1, lazy, b()), b()))),
		"(?<!(?=a+)b+)":    behind(true, seq(ahead(false, seq(a(), star(a()))), seq(star(b()), b()))),
		`(?<n>a)+\k<n>{2}`: named(seq(seq(fresh(group(1, a())), star(group(1, a()))), seqs(2, back(1))), "n"),
		"(a|(b)){2}":       named(seqs(2, fresh(group(1, alt(a(), group(2, b()))))), "", ""),
		"((a)?b){1,2}?":    named(seq(fresh(group(1, seq(try(greedy, group(2, a())), b()))), try(lazy, group(1, seq(try(greedy, group(2, a())), b())))), "", ""),
		"(a){0}(b)":        named(seq(empty(), group(2, b())), "", ""),
		"(?:){5}":          seqs(5, empty()),
	} {
		becomes(t, read(t, text), want)
	}
}

// TestTwice: P13.1, what is told is no written tree where tries or fresh ones are in it; else it stays as it is.
func TestTwice(t *testing.T) {
	for text, again := range map[string]bool{"a*": true, "a{3}": true, "a+?b": true, "a++": true, "(?<=a+b{0})": true, "(a)*": true, "a?": false, "a{0,2}": false, "(a){1}": false, "(a)+": false, "(a){0}": false} {
		x := read(t, text)
		out, e := spread.Out(x)
		if e != api.OK || tree.Right(out) != again {
			t.Error(text, e, shown(out))
		}
		if again {
			becomes(t, out, out)
		} else if got := alike(t, out); got.e != api.ErrShape || got.size != 0 {
			t.Error(text, shown(got))
		}
	}
}

// TestNames: P13.1, the names are those that were given, be their groups left out or not.
func TestNames(t *testing.T) {
	var groups []api.Tree
	var names []string
	for n := 1; n <= 20; n++ {
		groups = append(groups, group(n, a()))
		names = append(names, []string{"", "n" + string(rune('a'+n))}[n%2])
		x := named(alt(append(slices.Clone(groups), empty())...), names...)
		for _, y := range []api.Tree{x, named(times(3, x), names...), named(times(0, x), names...), named(repeat(0, 2, lazy, x), names...)} {
			if got := alike(t, y); got.e != api.OK || !slices.Equal(got.out.Names, names) {
				t.Error(shown(y), shown(got))
			}
		}
	}
}
