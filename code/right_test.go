package code_test

import (
	"slices"
	"testing"

	"tinder/api"
	"tinder/code"
)

// rightOps are all right instructions of a program of so many, with so many groups and marks, over some sets, each with its line; but for the end.
func rightOps(length, groups, marks int, sets ...[]api.Range) map[string]api.Op {
	l := map[string]api.Op{"yes": yes(), "spot start": spot(1), "spot end": spot(2), "spot word": spot(3), "spot inner": spot(4)}
	put := func(op api.Op) { l[modelLine(op)] = op }
	for _, s := range sets {
		put(api.Op{Kind: api.OpSet, Set: s})
		put(api.Op{Kind: api.OpSet, Set: s, Left: true})
	}
	for to := range length {
		put(jump(to))
		put(look(to))
		put(lookNot(to))
		put(atomic(to))
		for other := range length {
			put(split(to, other))
		}
	}
	for n := range marks {
		put(mark(n))
		put(check(n))
	}
	for n := 1; n <= groups; n++ {
		put(opens(n))
		put(closes(n))
		put(back(n))
		put(backLeft(n))
		for other := n; other <= groups; other++ {
			put(forget(n, other))
		}
	}
	return l
}

// TestAllOps: P14.1, P14.2, P14.3, P14.4, each instruction that may be in a small program, and no other one.
func TestAllOps(t *testing.T) {
	t.Parallel()
	for groups := range 3 {
		for marks := range 3 {
			ops := rightOps(3, groups, marks, nil, row('a', 'b', 'x', 'x'))
			known := map[string]bool{}
			for text, op := range ops {
				known[shown(op)] = true
				p := api.Program{Ops: []api.Op{op, yes(), end()}, Groups: groups, Marks: marks}
				head := shown(groups) + " " + shown(marks)
				lines(t, p, "program "+head+" plain\nwords -\nfolds\n"+text+"\nyes\nend\n")
				p.Ops = []api.Op{op, op, end()}
				p.Lines = true
				lines(t, p, "program "+head+" lines\nwords -\nfolds\n"+text+"\n"+text+"\nend\n")
			}
			if got, want := everyOp(t, groups, marks, known), len(ops); got != want {
				t.Error(groups, marks, got, want)
			}
		}
	}
}

// everyOp tries all instructions with few numbers: how many are right.
func everyOp(t *testing.T, groups, marks int, known map[string]bool) int {
	t.Helper()
	numbers := []int{-1, 0, 1, 2, 3}
	right := 0
	for kind := range api.OpKind(16) {
		for _, set := range [][]api.Range{nil, row('a', 'b', 'x', 'x')} {
			for _, to := range numbers {
				for _, other := range numbers {
					for _, n := range numbers {
						for flags := range 6 * 4 {
							op := api.Op{Kind: kind, Set: set, To: to, Else: other, Num: n, Spot: api.SpotKind(flags / 4), Not: flags&1 > 0, Left: flags&2 > 0}
							p := api.Program{Ops: []api.Op{op, yes(), end()}, Groups: groups, Marks: marks}
							is := code.Right(p)
							if is != known[shown(op)] {
								t.Fatal(shown(p), is)
							}
							if is {
								right++
							}
						}
					}
				}
			}
		}
	}
	return right
}

// TestPlaces: P14.1, what goes on elsewhere goes on at an instruction, be it the first one, itself, or the end.
func TestPlaces(t *testing.T) {
	for length := 1; length <= 5; length++ {
		for at := range length {
			for _, to := range []int{lowest, -1, 0, 1, 2, 3, 4, 5, 6, 1999, 2000, 1 << 31, 1<<32 + 1, highest} {
				for _, op := range []api.Op{jump(to), look(to), lookNot(to), atomic(to), split(0, to), split(to, 0), split(to, to), split(length, to), split(to, length)} {
					p := program(slices.Repeat([]api.Op{yes()}, length)...)
					p.Ops[at] = op
					want := 0 <= to && to <= length && !(op.Kind == api.OpSplit && op.To == length && op.Else == length+1)
					if got := alike(t, p); got.right != want {
						t.Error(shown(p), got)
					}
				}
			}
		}
	}
}

// TestEnd: P14.1, the last instruction is the end, and no other one.
func TestEnd(t *testing.T) {
	lines(t, program(), headed("end\n"))
	wrong(t, api.Program{})
	wrong(t, api.Program{Ops: []api.Op{}, Groups: 1})
	wrong(t, api.Program{Ops: []api.Op{yes()}})
	wrong(t, api.Program{Ops: []api.Op{end(), yes()}})
	wrong(t, api.Program{Ops: []api.Op{end(), end()}})
	wrong(t, api.Program{Ops: []api.Op{end(), yes(), end()}})
	wrong(t, api.Program{Ops: []api.Op{yes(), end(), end()}})
	wrong(t, api.Program{Ops: []api.Op{jump(0)}})
	wrong(t, api.Program{Ops: []api.Op{{}}})
}

// TestCounts: P14.1, how many groups and marks there may be, and that an instruction has one of these.
func TestCounts(t *testing.T) {
	for _, n := range []int{lowest, -1 << 32, -20, -1, 0, 1, 2, 19, 20, 21, 256, 1999, 2000, 2001, 1 << 31, 1<<32 + 1, highest} {
		p := program()
		p.Groups = n
		if got := alike(t, p); got.right != (0 <= n && n <= 20) {
			t.Error("groups", n)
		}
		p = program()
		p.Marks = n
		if got := alike(t, p); got.right != (0 <= n && n <= 2000) {
			t.Error("marks", n)
		}
		p = program(mark(n))
		p.Marks = 2000
		if got := alike(t, p); got.right != (0 <= n && n < 2000) {
			t.Error("mark", n)
		}
		p = program(back(n))
		p.Groups = 20
		if got := alike(t, p); got.right != (1 <= n && n <= 20) {
			t.Error("back", n)
		}
		for _, m := range []int{lowest, -1, 0, 1, 2, 19, 20, 21, highest} {
			p = program(forget(n, m))
			p.Groups = 20
			if got := alike(t, p); got.right != (1 <= n && n <= m && m <= 20) {
				t.Error("forget", n, m)
			}
		}
	}
	p := program(mark(1999), check(1999), mark(0), opens(20), closes(1), forget(1, 20), forget(20, 20))
	p.Groups, p.Marks = 20, 2000
	lines(t, p, "program 20 2000 plain\nwords -\nfolds\nmark 1999\ncheck 1999\nmark 0\nopen 20\nclose 1\nforget 1 20\nforget 20 20\nend\n")
}

// TestSets: P14.1, sets and words that are none.
func TestSets(t *testing.T) {
	for _, set := range [][]api.Range{row(1, 0), row(-1, 0), row(-1, -1), row(0, top+1), row(top+1, top+1), row(1, 2, 3, 4), row(1, 2, 2, 4), row(5, 5, 1, 1), row(1, 1, 1, 1), row(lowest, highest), row(highest, highest), row(lowest, lowest), row(1, 1, 5, 4), row(0, 0, highest, lowest), row(0, top, top, top)} {
		wrong(t, program(api.Op{Kind: api.OpSet, Set: set}))
		wrong(t, program(api.Op{Kind: api.OpSet, Set: set, Left: true}))
		p := program()
		p.Words = set
		wrong(t, p)
	}
	for _, set := range [][]api.Range{nil, {}, row(0, 0), row(top, top), row(0, top), row(1, 2, 4, 4), row(0xD800, 0xDFFF)} {
		p := program(api.Op{Kind: api.OpSet, Set: set})
		p.Words = set
		if got := alike(t, p); !got.right {
			t.Error(shown(set))
		}
	}
	// What has no set has none of any sort.
	for _, op := range []api.Op{split(0, 0), jump(0), mark(0), check(0), forget(1, 1), opens(1), closes(1), back(1), backLeft(1), spot(1), look(0), lookNot(0), atomic(0), yes()} {
		for _, set := range [][]api.Range{row(1, 1), row(0, top), row(2, 1), row(-5, -3)} {
			op.Set = set
			wrong(t, program(op))
		}
		op.Set = []api.Range{}
		if got := alike(t, program(op)); !got.right {
			t.Error(shown(op))
		}
	}
	p := program()
	p.Ops[0].Set = row(1, 1)
	wrong(t, p)
}

// TestFolds: P14.1, folds that are right and that are not.
func TestFolds(t *testing.T) {
	for _, l := range [][]api.Fold{folds(1, 1), folds(-1, 1), folds(1, -1), folds(top+1, 1), folds(1, top+1), folds(1, 2, 2, 3), folds(1, 0, 2, 1), folds(3, 5, 1, 5), folds(1, 5, 1, 6), folds(1, 5, 1, 5), folds(lowest, highest), folds(1, 9, 2, 3, 3, 9)} {
		p := program()
		p.Folds = l
		wrong(t, p)
	}
	p := program(set('a', 'a'))
	p.Words, p.Folds = row('a', 'z'), folds('A', 'a', 'K', 'k', 0x212A, 'k')
	lines(t, p, "program 2 2 plain\nwords 61-7a\nfolds 41>61 4b>6b 212a>6b\nset 61\nend\n")
	p.Folds = folds(0, top)
	lines(t, p, "program 2 2 plain\nwords 61-7a\nfolds 0>10ffff\nset 61\nend\n")
	p.Folds = folds(top, 0)
	lines(t, p, "program 2 2 plain\nwords 61-7a\nfolds 10ffff>0\nset 61\nend\n")
}
