package compile_test

import (
	"fmt"
	"reflect"
	"slices"
	"strings"
	"testing"

	"tinder/api"
	"tinder/code"
	"tinder/compile"
	"tinder/early"
	"tinder/tree"
)

const (
	greedy = api.ModeGreedy
	lazy   = api.ModeLazy
	own    = api.ModeOwn
)

// Trees of each kind, above others.

func of(kind api.NodeKind, kids ...api.Tree) api.Tree {
	return tree.Join(api.Node{Kind: kind}, kids...)
}

func set(ranges ...api.Range) api.Tree { return tree.Join(api.Node{Kind: api.NodeSet, Set: ranges}) }

func a() api.Tree { return set(api.Range{Lo: 'a', Hi: 'a'}) }

func empty() api.Tree { return of(api.NodeEmpty) }

// seqs is a sequence of one tree, so many times.
func seqs(n int, x api.Tree) api.Tree { return of(api.NodeSeq, slices.Repeat([]api.Tree{x}, n)...) }

func group(n int, x api.Tree) api.Tree { return tree.Join(api.Node{Kind: api.NodeGroup, Group: n}, x) }

func back(n int) api.Tree { return tree.Join(api.Node{Kind: api.NodeBack, Group: n}) }

func spot(kind api.SpotKind) api.Tree { return tree.Join(api.Node{Kind: api.NodeSpot, Spot: kind}) }

func repeat(from, to int, mode api.ModeKind, x api.Tree) api.Tree {
	return tree.Join(api.Node{Kind: api.NodeRepeat, Min: from, Max: to, Mode: mode}, x)
}

// times is a repeat of just so many rounds.
func times(n int, x api.Tree) api.Tree { return repeat(n, n, greedy, x) }

// named is the same tree with names for its groups.
func named(x api.Tree, names ...string) api.Tree {
	x.Names = names
	return x
}

// read is the tree of a pattern.
func read(t testing.TB, pattern string) api.Tree {
	t.Helper()
	x, at, e := early.Read(pattern, api.Flags{}, api.Tables{})
	if e != api.OK {
		t.Fatal(pattern, at, e)
	}
	return x
}

// folds are tables of folds alone, by what each is of and to.
func folds(points ...int) api.Tables {
	var tables api.Tables
	for i := 0; i < len(points); i += 2 {
		tables.Folds = append(tables.Folds, api.Fold{From: points[i], To: points[i+1]})
	}
	return tables
}

func shown(x any) string {
	text := fmt.Sprintf("%+v", x)
	return text[:min(len(text), 1000)]
}

// bared is the same program in memory of its own, in which no list without elements is told from a nil one.
func bared(p api.Program) api.Program {
	p.Ops, p.Words, p.Folds = listed(p.Ops), listed(p.Words), listed(p.Folds)
	for at := range p.Ops {
		p.Ops[at].Set = listed(p.Ops[at].Set)
	}
	return p
}

func listed[E any](l []E) []E { return append([]E(nil), l...) }

// answer is what is told of a tree.
type answer struct {
	p api.Program
	e api.Errno
}

func answerOf(x api.Tree, flags api.Flags, tables api.Tables) answer {
	p, e := compile.Of(x, flags, tables)
	return answer{p, e}
}

func (l answer) same(m answer) bool { return l.e == m.e && reflect.DeepEqual(bared(l.p), bared(m.p)) }

// alike fails unless what is told of a tree is what the chapter's words say, and what follows from them holds.
func alike(t testing.TB, x api.Tree, flags api.Flags, tables api.Tables) answer {
	t.Helper()
	got, want := answerOf(x, flags, tables), modelAnswer(x, flags, tables)
	if !got.same(want) {
		t.Fatalf("%s: %s; want %s", shown(x), shown(got), shown(want))
	}
	if got.e == api.OK {
		follows(t, got.p)
	} else if !reflect.DeepEqual(got.p, api.Program{}) {
		t.Fatal(shown(x), "is none, but", shown(got))
	}
	return got
}

// plainly is alike without flags and tables.
func plainly(t testing.TB, x api.Tree) answer {
	t.Helper()
	return alike(t, x, api.Flags{}, api.Tables{})
}

// lines are the lines of a program's instructions, with "; " between them.
func lines(t testing.TB, p api.Program) string {
	t.Helper()
	text, e := code.Text(p)
	if e != api.OK {
		t.Fatal(shown(p), e)
	}
	return strings.Join(strings.Split(strings.TrimSuffix(text, "\n"), "\n")[3:], "; ")
}

// becomes fails unless a pattern becomes these instructions.
func becomes(t *testing.T, pattern string, groups, marks int, want string) {
	t.Helper()
	got := plainly(t, read(t, pattern))
	if got.e != api.OK || got.p.Groups != groups || got.p.Marks != marks || lines(t, got.p) != want {
		t.Errorf("%s: %v, %d, %d, %s; want %s", pattern, got.e, got.p.Groups, got.p.Marks, lines(t, got.p), want)
	}
}

// long fails unless a tree becomes so many instructions, or, if they are above 2000, its program is too great.
func long(t *testing.T, x api.Tree, want int) {
	t.Helper()
	got := plainly(t, x)
	if want > 2000 {
		if got.e != api.ErrSize {
			t.Fatalf("%s: %v, %d; want too many", shown(x), got.e, len(got.p.Ops))
		}
		return
	}
	if got.e != api.OK || len(got.p.Ops) != want {
		t.Fatalf("%s: %v, %d; want %d", shown(x), got.e, len(got.p.Ops), want)
	}
}

// refuses fails unless a tree is told to be none.
func refuses(t *testing.T, x api.Tree) {
	t.Helper()
	if got := plainly(t, x); got.e != api.ErrShape {
		t.Errorf("%s: %s", shown(x), shown(got))
	}
}

func count(is bool) int {
	if is {
		return 1
	}
	return 0
}
