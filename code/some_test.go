package code_test

import (
	"math/rand"
	"slices"
	"strings"
	"testing"

	"tinder/api"
)

// pick is one of a row, which is not empty.
func pick[E any](r *rand.Rand, l ...E) E { return l[r.Intn(len(l))] }

// someSet is a set of a few ranges.
func someSet(r *rand.Rand) []api.Range {
	var set []api.Range
	next := r.Intn(100)
	for range r.Intn(4) {
		lo := next + r.Intn(1+r.Intn(0x10000))
		hi := lo + r.Intn(1+r.Intn(300))*r.Intn(2)
		set = append(set, api.Range{Lo: lo, Hi: hi})
		next = hi + 2
	}
	return set
}

// someFolds are a few folds that are right.
func someFolds(r *rand.Rand) []api.Fold {
	var l []api.Fold
	next := r.Intn(100)
	for range r.Intn(4) {
		next += 1 + 2*r.Intn(1+r.Intn(0x10000))
		l = append(l, api.Fold{From: next, To: pick(r, 0x100000+r.Intn(0x10000), 0x100005)})
	}
	return l
}

// someOp is an instruction that may stand in a program; so many groups and marks there are, and one at least.
func someOp(r *rand.Rand, length, groups, marks int) api.Op {
	group := 1 + r.Intn(groups)
	return pick(r,
		set(), api.Op{Kind: api.OpSet, Set: someSet(r)}, api.Op{Kind: api.OpSet, Set: someSet(r), Left: true}, split(r.Intn(length), r.Intn(length)), jump(r.Intn(length)), mark(r.Intn(marks)), check(r.Intn(marks)), forget(group, group+r.Intn(groups-group+1)),
		opens(group), closes(group), back(group), backLeft(group), spot(api.SpotKind(1+r.Intn(4))), look(r.Intn(length)), lookNot(r.Intn(length)), atomic(r.Intn(length)), yes(),
	)
}

// someProgram is a right program.
func someProgram(r *rand.Rand) api.Program {
	p := api.Program{Groups: 1 + r.Intn(20), Marks: 1 + r.Intn(pick(r, 3, 2000)), Lines: r.Intn(2) > 0, Words: someSet(r), Folds: someFolds(r)}
	length := 1 + r.Intn(pick(r, 3, 12, 30))
	for range length - 1 {
		p.Ops = append(p.Ops, someOp(r, length, p.Groups, p.Marks))
	}
	p.Ops = append(p.Ops, end())
	return p
}

// bend changes one thing of a program.
func bend(r *rand.Rand, p *api.Program) {
	number := pick(r, -1, 0, 0, 1, 1, 2, 3, len(p.Ops)-1, len(p.Ops), p.Groups, p.Groups+1, p.Marks, p.Marks-1, 20, 21, 2000, 2001, highest, lowest)
	ranges := pick(r, nil, row(1, 2), row(2, 1), row(-1, 1), row('a', 'b', 'x', top), row(1, 2, 3, 4), row(7, top+1))
	switch r.Intn(8) {
	case 0:
		p.Groups = number
	case 1:
		p.Marks = number
	case 2:
		p.Lines = !p.Lines
	case 3:
		p.Words = ranges
	case 4:
		p.Folds = pick(r, nil, folds(1, 2), folds(1, 1), folds(1, 2, 2, 3), folds(2, 3, 1, 3), folds(1, top+1), folds(-1, 1))
	case 5:
		bendOps(r, p)
	default:
		if len(p.Ops) > 0 {
			bendOp(r, &p.Ops[r.Intn(len(p.Ops))], number, ranges)
		}
	}
}

// bendOps changes which instructions there are.
func bendOps(r *rand.Rand, p *api.Program) {
	at := r.Intn(len(p.Ops) + 1)
	switch r.Intn(3) {
	case 0:
		p.Ops = slices.Insert(p.Ops, at, pick(r, yes(), end(), jump(0)))
	case 1:
		p.Ops = p.Ops[:at]
	case 2:
		p.Ops = p.Ops[at:]
	}
}

// bendOp changes one thing of an instruction.
func bendOp(r *rand.Rand, op *api.Op, number int, set []api.Range) {
	switch r.Intn(8) {
	case 0:
		op.Kind = api.OpKind(r.Intn(16))
	case 1:
		op.Set = set
	case 2:
		op.To = number
	case 3:
		op.Else = number
	case 4:
		op.Num = number
	case 5:
		op.Spot = api.SpotKind(r.Intn(6))
	case 6:
		op.Not = !op.Not
	case 7:
		op.Left = !op.Left
	}
}

// TestSomePrograms: P14.1, P14.2, P14.3, P14.4, programs of all sorts, which are taken back from what is told, held against the chapter's words.
func TestSomePrograms(t *testing.T) {
	t.Parallel()
	r := rand.New(rand.NewSource(141))
	for range 6000 {
		p := someProgram(r)
		lines(t, p, modelText(p))
	}
}

// TestBent: P14.1, P14.2, P14.3, R1, programs in which one thing after the other is changed, and the texts that these have nevertheless, held against the chapter's words.
func TestBent(t *testing.T) {
	t.Parallel()
	r := rand.New(rand.NewSource(142))
	right, wrong, kept := 0, 0, 0
	for range 12000 {
		p := someProgram(r)
		for range 4 {
			bend(r, &p)
			is := alike(t, p).right
			right += count(is)
			wrong += count(!is)
			// A text says nothing of what its lines have not: so it may be of another program, which is right.
			got := reads(t, modelText(p))
			if is && !got.same(taken{p: p}) {
				t.Fatal(shown(p), shown(got))
			}
			kept += count(!is && got.e == api.OK)
		}
	}
	if right < 4000 || wrong < 20000 || kept < 1000 {
		t.Error(right, wrong, kept)
	}
}

// signs are bytes, and more, that may be put into a text.
var signs = []string{"", " ", "\n", "\r", "\t", "0", "1", "9", "a", "f", "g", "A", "F", "-", ",", ">", "<", "!", "_", "+", "\x00", "\xFF", "é", "00", "  ", "\n\n", "end\n", "yes\n"}

// TestBentTexts: P14.3, R1, texts of right programs, changed at each place, held against the chapter's words.
func TestBentTexts(t *testing.T) {
	t.Parallel()
	p := api.Program{Groups: 12, Marks: 1, Lines: true, Words: row('0', '9', '_', '_'), Folds: folds('A', 'a', 0x212A, 'k'), Ops: []api.Op{
		split(1, 11), mark(0), forget(1, 10), opens(12), set('a', 'f', 0x2028, 0x2028), closes(2), check(0), lookNot(10), backLeft(2), setLeft(), yes(), look(12), spot(api.SpotInner), atomic(0), back(1), jump(16), end(),
	}}
	text := modelText(p)
	right := 0
	for at := range len(text) + 1 {
		for _, sign := range signs {
			right += count(reads(t, text[:at]+sign+text[at:]).e == api.OK)
			if at < len(text) {
				right += count(reads(t, text[:at]+sign+text[at+1:]).e == api.OK)
			}
		}
	}
	if right < 500 {
		t.Error(right)
	}
}

// TestMixedLines: P14.3, texts whose lines are taken from those of others, and some that are none, held against the chapter's words.
func TestMixedLines(t *testing.T) {
	t.Parallel()
	r := rand.New(rand.NewSource(143))
	fits, stopped := 0, map[int]int{}
	for range 20000 {
		l := strings.SplitAfter(modelText(someProgram(r)), "\n")
		l = l[:len(l)-1]
		for range r.Intn(3) {
			at := r.Intn(len(l))
			switch r.Intn(5) {
			case 0:
				l[at] = pick(r, odd...) + "\n"
			case 1:
				l[at] = pick(r, right...) + "\n"
			case 2:
				other := r.Intn(len(l))
				l[at], l[other] = l[other], l[at]
			case 3:
				l = slices.Insert(l, at, pick(r, l...))
			case 4:
				l = slices.Insert(slices.Delete(l, at, at+1), 0, pick(r, "", "yes\n"))
			}
		}
		got := reads(t, strings.Join(l, ""))
		fits += count(got.e == api.OK)
		stopped[got.line]++
	}
	if fits < 6000 || stopped[1] < 500 || stopped[3] < 100 || stopped[4] < 200 || stopped[9] < 100 {
		t.Error(fits, stopped)
	}
}
