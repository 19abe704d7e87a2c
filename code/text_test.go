package code_test

import (
	"testing"

	"tinder/api"
	"tinder/code"
)

// TestLines: P14.2, P14.3, P14.4, each instruction's line.
func TestLines(t *testing.T) {
	for text, op := range map[string]api.Op{
		"set -":               set(),
		"set 0":               set(0, 0),
		"set 61":              set('a', 'a'),
		"set 61-7a":           set('a', 'z'),
		"set 0-10ffff":        set(0, top),
		"set 10ffff":          set(top, top),
		"set 61-62,64":        set('a', 'b', 'd', 'd'),
		"set 9,b-d,2028-2029": set(9, 9, 11, 13, 0x2028, 0x2029),
		"set abc-def":         set(0xabc, 0xdef),
		"set< -":              setLeft(),
		"set< 61":             setLeft('a', 'a'),
		"set< 0-9,b-10ffff":   setLeft(0, 9, 11, top),
		"split 1 0":           split(1, 0),
		"split 0 1":           split(0, 1),
		"split 1 1":           split(1, 1),
		"jump 0":              jump(0),
		"jump 1":              jump(1),
		"mark 0":              mark(0),
		"mark 1":              mark(1),
		"check 0":             check(0),
		"check 1":             check(1),
		"forget 1 2":          forget(1, 2),
		"forget 1 1":          forget(1, 1),
		"forget 2 2":          forget(2, 2),
		"open 1":              opens(1),
		"open 2":              opens(2),
		"close 1":             closes(1),
		"close 2":             closes(2),
		"back 1":              back(1),
		"back 2":              back(2),
		"back< 1":             backLeft(1),
		"back< 2":             backLeft(2),
		"spot start":          spot(api.SpotStart),
		"spot end":            spot(api.SpotEnd),
		"spot word":           spot(api.SpotWord),
		"spot inner":          spot(api.SpotInner),
		"look 0":              look(0),
		"look 1":              look(1),
		"look! 0":             lookNot(0),
		"look! 1":             lookNot(1),
		"atomic 0":            atomic(0),
		"atomic 1":            atomic(1),
		"yes":                 yes(),
	} {
		lines(t, program(op), headed(text+"\nend\n"))
		lines(t, program(op, yes(), op), headed(text+"\nyes\n"+text+"\nend\n"))
	}
}

// TestHeads: P14.2, P14.3, P14.4, the lines that a program begins with.
func TestHeads(t *testing.T) {
	lines(t, api.Program{Ops: []api.Op{end()}}, "program 0 0 plain\nwords -\nfolds\nend\n")
	lines(t, api.Program{Ops: []api.Op{end()}, Lines: true}, "program 0 0 lines\nwords -\nfolds\nend\n")
	lines(t, api.Program{Ops: []api.Op{end()}, Groups: 20, Marks: 2000, Lines: true}, "program 20 2000 lines\nwords -\nfolds\nend\n")
	lines(t, api.Program{Ops: []api.Op{end()}, Groups: 1, Words: row('0', '9', 'A', 'Z', '_', '_', 'a', 'z')}, "program 1 0 plain\nwords 30-39,41-5a,5f,61-7a\nfolds\nend\n")
	lines(t, api.Program{Ops: []api.Op{end()}, Marks: 1, Words: row(0, top), Folds: folds(1, 0xabcde, 0xa, 0xb, 0xabcdf, 0xfeed)}, "program 0 1 plain\nwords 0-10ffff\nfolds 1>abcde a>b abcdf>feed\nend\n")
}

// TestExamples: P14.2, P14.3, the chapter's example, and programs of patterns that the next layer's chapter has.
func TestExamples(t *testing.T) {
	lines(t, api.Program{Ops: []api.Op{set('a', 'z'), end()}}, "program 0 0 plain\nwords -\nfolds\nset 61-7a\nend\n")
	p := api.Program{Ops: []api.Op{split(1, 5), mark(0), set('a', 'a'), check(0), jump(0), end()}, Marks: 1}
	lines(t, p, "program 0 1 plain\nwords -\nfolds\nsplit 1 5\nmark 0\nset 61\ncheck 0\njump 0\nend\n")
	p = api.Program{Ops: []api.Op{split(1, 3), set('a', 'a'), jump(4), set('b', 'b'), end()}}
	lines(t, p, "program 0 0 plain\nwords -\nfolds\nsplit 1 3\nset 61\njump 4\nset 62\nend\n")
	p = api.Program{Ops: []api.Op{lookNot(6), opens(1), setLeft('a', 'a'), backLeft(1), closes(1), yes(), atomic(9), forget(1, 1), yes(), spot(api.SpotEnd), end()}, Groups: 1}
	lines(t, p, "program 1 0 plain\nwords -\nfolds\nlook! 6\nopen 1\nset< 61\nback< 1\nclose 1\nyes\natomic 9\nforget 1 1\nyes\nspot end\nend\n")
}

// TestAllRanges: P14.2, P14.4, each code point and each range of a few, told and read.
func TestAllRanges(t *testing.T) {
	t.Parallel()
	for c := 0; c <= top; c += 1 + c/97 {
		for _, hi := range []int{c, c + 1, c + 15, 16 * c, top} {
			if hi <= top && c <= hi {
				p := program(set(c, hi))
				if got := alike(t, p); !got.right {
					t.Fatal(c, hi)
				}
				reads(t, modelText(p))
			}
		}
	}
}

// TestNoOthers: P14.4, of two programs that are not one the lines are not, either.
func TestNoOthers(t *testing.T) {
	met := map[string]string{}
	for groups := range 3 {
		for marks := range 3 {
			for at := range 2 {
				for _, op := range rightOps(3, groups, marks, nil, row(1, 1), row(1, 2), row(1, 1, 3, 3), row(1, 3), row(0x13, 0x13)) {
					p := api.Program{Ops: []api.Op{yes(), yes(), end()}, Groups: groups, Marks: marks, Lines: at > 0}
					p.Ops[at] = op
					text, e := code.Text(p)
					if before, is := met[text]; e != api.OK || is && before != shown(p) {
						t.Fatal(text, e, before, shown(p))
					}
					met[text] = shown(p)
				}
			}
		}
	}
}
