package show_test

import (
	"fmt"
	"slices"
	"strings"
	"testing"

	"tinder/api"
	"tinder/show"
	"tinder/tree"
)

// long is a sequence whose text is so many code points, two at least.
func long(n int) api.Tree {
	return seq(slices.Repeat([]api.Tree{start()}, n)...)
}

// TestLongest: P11.1, texts of 2000 code points and of more, whatever node puts the last ones to it: more is how many those are.
func TestLongest(t *testing.T) {
	t.Parallel()
	a := start()
	for name, c := range map[string]struct {
		more int
		made func(x api.Tree) api.Tree
	}{
		"alone":                       {0, func(x api.Tree) api.Tree { return x }},
		"choice ahead":                {2, func(x api.Tree) api.Tree { return alt(x, a) }},
		"choice behind":               {2, func(x api.Tree) api.Tree { return alt(a, x) }},
		"sequence ahead":              {5, func(x api.Tree) api.Tree { return seq(x, a) }},
		"sequence behind":             {5, func(x api.Tree) api.Tree { return seq(a, x) }},
		"choice in a sequence":        {10, func(x api.Tree) api.Tree { return seq(alt(x, empty()), a) }},
		"group":                       {2, func(x api.Tree) api.Tree { return named(group(1, x), "") }},
		"group with a name":           {7, func(x api.Tree) api.Tree { return named(group(1, x), "ab") }},
		"group with a long name":      {45, func(x api.Tree) api.Tree { return named(group(1, x), name40) }},
		"atomic part":                 {4, func(x api.Tree) api.Tree { return atomic(x) }},
		"look ahead":                  {4, func(x api.Tree) api.Tree { return ahead(true, x) }},
		"look behind":                 {5, func(x api.Tree) api.Tree { return behind(false, x) }},
		"repeat":                      {8, func(x api.Tree) api.Tree { return repeat(0, -1, greedy, x) }},
		"lazy repeat":                 {12, func(x api.Tree) api.Tree { return repeat(17, 20, lazy, x) }},
		"repeat that never goes back": {16, func(x api.Tree) api.Tree { return repeat(1000, 1000, own, x) }},
		"number":                      {7, func(x api.Tree) api.Tree { return named(alt(x, group(1, a), back(1)), "") }},
		"name":                        {92, func(x api.Tree) api.Tree { return named(alt(x, group(1, a), back(1)), name40) }},
		"empty one":                   {5, func(x api.Tree) api.Tree { return alt(x, empty()) }},
		"set":                         {24, func(x api.Tree) api.Tree { return alt(x, set(0x100000, top)) }},
		"spots":                       {5, func(x api.Tree) api.Tree { return alt(x, seq(spot(api.SpotWord), spot(api.SpotInner))) }},
	} {
		for n := 1998 - c.more; n <= 2002-c.more; n++ {
			text, e := alike(t, c.made(long(n)))
			switch all := n + c.more; {
			case all <= 2000 && (e != api.OK || len(text) != all || !strings.Contains(text, strings.Repeat("^", n))):
				t.Errorf("%s, %d: %v, %d", name, all, e, len(text))
			case all > 2000 && (e != api.ErrLong || text != ""):
				t.Errorf("%s, %d: %v, %d", name, all, e, len(text))
			}
		}
	}
}

// TestLongBelow: P11.1, texts that are too long below, or only all together.
func TestLongBelow(t *testing.T) {
	for n := 1; n <= 50; n++ {
		x := long(2001)
		for range n {
			x = atomic(x)
		}
		refuses(t, x, api.ErrLong)
	}
	for _, x := range []api.Tree{alt(long(2001), start()), alt(start(), long(2001)), seq(long(2001), start()), named(alt(group(1, long(2001)), back(1)), "n"), ahead(true, alt(empty(), long(2001))), repeat(0, 0, greedy, long(2001))} {
		refuses(t, x, api.ErrLong)
	}
	for _, n := range []int{499, 500, 501, 999} {
		shows(t, alt(long(n), long(1999-n)), strings.Repeat("^", n)+"|"+strings.Repeat("^", 1999-n))
		refuses(t, alt(long(n), long(2000-n)), api.ErrLong)
		refuses(t, alt(long(n), long(1998-n), empty()), api.ErrLong)
	}
}

// TestMostRanges: P11.1, sets of many ranges, up to what a pattern may have, and beyond that up to what a set may have.
func TestMostRanges(t *testing.T) {
	for n := 285; n <= 320; n++ {
		want := 2
		for i := range n {
			want += len(fmt.Sprintf("%x", 3*i)) + 4
		}
		text, e := alike(t, set(singles(n)...))
		if want <= 2000 && (e != api.OK || len(text) != want) || want > 2000 && (e != api.ErrLong || text != "") {
			t.Error(n, want, e, len(text))
		}
	}
	for n := 1999; n <= 2001; n++ {
		want := api.ErrLong
		if n > 2000 {
			want = api.ErrArg
		}
		refuses(t, set(singles(n)...), want)
		refuses(t, repeat(0, 0, greedy, set(singles(n)...)), want)
	}
}

// singles are the ends of so many ranges of one code point each.
func singles(many int) []int {
	var ends []int
	for i := range many {
		ends = append(ends, 3*i, 3*i)
	}
	return ends
}

// TestDeepest: P11.1, trees 60 deep, and one deeper, of all kinds that have one kid.
func TestDeepest(t *testing.T) {
	for n := 58; n <= 61; n++ {
		for name, c := range map[string]struct {
			head, tail string
			above      func(x api.Tree) api.Tree
		}{
			"atomic": {"(?>", ")", atomic},
			"ahead":  {"(?!", ")", func(x api.Tree) api.Tree { return ahead(true, x) }},
			"behind": {"(?<=", ")", func(x api.Tree) api.Tree { return behind(false, x) }},
			"repeat": {"(?:", "){0,}?", func(x api.Tree) api.Tree { return repeat(0, -1, lazy, x) }},
			"seq":    {"(?:", ")^", func(x api.Tree) api.Tree { return seq(x, start()) }},
			"alt":    {"^|(?:", ")", func(x api.Tree) api.Tree { return alt(start(), x) }},
		} {
			x := start()
			for range n - 1 {
				x = c.above(x)
			}
			if n > 60 {
				refuses(t, x, api.ErrArg)
				continue
			}
			text, e := alike(t, x)
			if e != api.OK || strings.Count(text, c.head) < n-2 || strings.Count(text, c.tail) < n-2 || tree.Deep(x) != n {
				t.Errorf("%s, %d: %v, %q", name, n, e, text)
			}
		}
	}
}

// TestMostGroups: P11.1, 20 groups, one within the other and one behind the other, and one more.
func TestMostGroups(t *testing.T) {
	for many := 19; many <= 21; many++ {
		inner, names := seq(back(many), back(1)), []string{}
		for i := range many {
			inner = group(many-i, inner)
			names = append(names, []string{"", "n" + strings.Repeat("x", i)}[i%2])
		}
		var kids []api.Tree
		for i := range many {
			kids = append(kids, group(i+1, start()))
		}
		outer := seq(append(kids, back(many), back(many-1))...)
		for _, x := range []api.Tree{named(inner, names...), unnamed(inner), named(outer, names...), unnamed(outer)} {
			if text, e := alike(t, x); (e == api.OK) != (many <= 20) || (text != "") != (many <= 20) {
				t.Error(many, e, text)
			}
		}
	}
}

// TestMostNodes: P11.1, 4000 nodes, which have too long a text, and one more.
func TestMostNodes(t *testing.T) {
	for n := 3998; n <= 4002; n++ {
		want := api.ErrLong
		if n > 4000 {
			want = api.ErrArg
		}
		refuses(t, long(n-1), want)
		refuses(t, alt(slices.Repeat([]api.Tree{set()}, n-1)...), want)
	}
	// As many nodes as a text may be read as: the sequences and their choice have no sign of their own but the | between.
	kids := slices.Repeat([]api.Tree{long(2)}, 666)
	x := alt(append(kids, start())...)
	if text, e := alike(t, x); e != api.OK || len(text) != 1999 || len(x.Nodes) != 2000 {
		t.Error(e, len(text), len(x.Nodes))
	}
	refuses(t, alt(append(kids, long(2), start())...), api.ErrLong)
}

// TestGreat: R1, R7, very great trees, rows and texts come to an end.
func TestGreat(t *testing.T) {
	const n = 1 << 18
	ranges, kids := make([]api.Range, n), make([]int, n)
	for i := range n {
		ranges[i], kids[i] = api.Range{Lo: 3 * i, Hi: 3 * i}, i
	}
	name := strings.Repeat("a", 1<<24)
	for i, x := range []api.Tree{
		{Nodes: make([]api.Node, n)}, {Nodes: []api.Node{{Kind: api.NodeSet, Set: ranges}}}, {Nodes: []api.Node{{Kind: api.NodeSeq, Kids: kids}}}, {Nodes: []api.Node{{Kind: api.NodeEmpty}}, Names: make([]string, n)}, named(group(1, start()), name), named(seq(group(1, start()), back(1)), name), long(n),
	} {
		if text, e := show.Text(x); e != api.ErrArg || text != "" {
			t.Error(i, e, len(text))
		}
	}
	// All nodes of the greatest set, of which there is but one row; all of texts that are just short enough.
	for _, s := range []api.Tree{set(singles(2000)...), set(singles(280)...)} {
		x := of(api.NodeSeq)
		for at := range 3999 {
			x.Nodes = slices.Insert(x.Nodes, at, s.Nodes[0])
			x.Nodes[at+1].Kids = append(x.Nodes[at+1].Kids, at)
		}
		if text, e := show.Text(x); !tree.Right(x) || e != api.ErrLong || text != "" {
			t.Error(tree.Right(x), e, len(text))
		}
	}
}
