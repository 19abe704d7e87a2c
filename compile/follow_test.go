package compile_test

import (
	"testing"

	"tinder/api"
	"tinder/code"
)

// graph is, of each instruction, where it may go on: what it names, and what stands behind it, unless it goes on elsewhere.
type graph [][]int

func graphOf(p api.Program) graph {
	var g graph
	for at, op := range p.Ops {
		switch op.Kind {
		case api.OpSplit:
			g = append(g, []int{op.To, op.Else})
		case api.OpJump:
			g = append(g, []int{op.To})
		case api.OpLook, api.OpAtomic:
			g = append(g, []int{at + 1, op.To})
		case api.OpEnd:
			g = append(g, nil)
		default:
			g = append(g, []int{at + 1})
		}
	}
	return g
}

// turned is the same graph, each way gone from its end to its beginning.
func (g graph) turned() graph {
	out := make(graph, len(g))
	for at, l := range g {
		for _, to := range l {
			out[to] = append(out[to], at)
		}
	}
	return out
}

// met is how many places can be come to from one.
func (g graph) met(from int) int {
	seen, work := make([]bool, len(g)), []int{from}
	met := 0
	for len(work) > 0 {
		at := work[len(work)-1]
		work = work[:len(work)-1]
		if seen[at] {
			continue
		}
		seen[at] = true
		met++
		work = append(work, g[at]...)
	}
	return met
}

// round says whether there is a way round: whether places are left when those to which no way leads any more are taken away, one by one.
func (g graph) round() bool {
	ways := make([]int, len(g))
	for at, l := range g.turned() {
		ways[at] = len(l)
	}
	var free []int
	for at, n := range ways {
		if n == 0 {
			free = append(free, at)
		}
	}
	left := len(g)
	for len(free) > 0 {
		at := free[0]
		free = free[1:]
		left--
		for _, to := range g[at] {
			ways[to]--
			if ways[to] == 0 {
				free = append(free, to)
			}
		}
	}
	return left > 0
}

// follows fails unless a program is such as P15.2 says.
func follows(t testing.TB, p api.Program) {
	t.Helper()
	if !code.Right(p) {
		t.Fatal("not right:", shown(p))
	}
	g := graphOf(p)
	if last := len(g) - 1; g.met(0) != len(g) || g.turned().met(last) != len(g) {
		t.Fatal("apart:", shown(p))
	}
	for at, op := range p.Ops {
		if op.Kind == api.OpCheck {
			g[at] = nil
		}
	}
	if g.round() {
		t.Fatal("round without a check:", shown(p))
	}
	nests(t, p)
}

// nests fails unless each look, each atomic part goes on right behind its own end.
func nests(t testing.TB, p api.Program) {
	t.Helper()
	var open []int
	for at, op := range p.Ops {
		switch op.Kind {
		case api.OpLook, api.OpAtomic:
			open = append(open, op.To)
		case api.OpYes:
			if len(open) == 0 || open[len(open)-1] != at+1 {
				t.Fatal("not nested:", shown(p))
			}
			open = open[:len(open)-1]
		}
	}
	if len(open) > 0 {
		t.Fatal("not ended:", shown(p))
	}
}
