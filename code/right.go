package code

import (
	"tinder/api"
	"tinder/fold"
	"tinder/ranges"
)

// program is a program of which is asked whether it is right.
type program struct{ api.Program }

func (p program) right() bool {
	return p.counted() && ranges.Right(p.Words) && fold.Right(api.Tables{Folds: p.Folds}) && p.kinded()
}

// counted says whether there are as many instructions, groups and marks as there may be.
func (p program) counted() bool {
	return len(p.Ops) <= api.MaxProgram && from(0, p.Groups, api.MaxGroups) && from(0, p.Marks, api.MaxProgram)
}

// kinded says whether all instructions are of their kinds, and the last one, and no other one, is the end.
func (p program) kinded() bool {
	last := len(p.Ops) - 1
	for at, op := range p.Ops {
		if (op.Kind == api.OpEnd) != (at == last) || !p.fits(op) {
			return false
		}
	}
	return last >= 0
}

// fits says whether an instruction has what its kind says, and nothing else.
func (p program) fits(op api.Op) bool {
	has, rest := false, op
	switch op.Kind {
	case api.OpSet:
		has = len(op.Set) <= api.MaxRanges && ranges.Right(op.Set)
		rest.Set, rest.Left = nil, false
	case api.OpSplit:
		has = p.place(op.To) && p.place(op.Else)
		rest.To, rest.Else = 0, 0
	case api.OpJump, api.OpAtomic:
		has = p.place(op.To)
		rest.To = 0
	case api.OpMark, api.OpCheck:
		has = from(0, op.Num, p.Marks-1)
		rest.Num = 0
	case api.OpForget:
		has = p.group(op.Num) && from(op.Num, op.Else, p.Groups)
		rest.Num, rest.Else = 0, 0
	case api.OpOpen, api.OpClose:
		has = p.group(op.Num)
		rest.Num = 0
	case api.OpBack:
		has = p.group(op.Num)
		rest.Num, rest.Left = 0, false
	case api.OpSpot:
		has = api.SpotStart <= op.Spot && op.Spot <= api.SpotInner
		rest.Spot = 0
	case api.OpLook:
		has = p.place(op.To)
		rest.To, rest.Not = 0, false
	case api.OpYes, api.OpEnd:
		has = true
	}
	return has && bare(rest)
}

// place says whether an instruction stands at a place.
func (p program) place(at int) bool {
	return from(0, at, len(p.Ops)-1)
}

// group says whether a number is a group's.
func (p program) group(n int) bool {
	return from(1, n, p.Groups)
}

// from says whether a number is from the least to the most.
func from(least, n, most int) bool {
	return least <= n && n <= most
}

// bare says whether nothing is left of an instruction beside its kind.
func bare(op api.Op) bool {
	return len(op.Set) == 0 && op.To == 0 && op.Else == 0 && op.Num == 0 && op.Spot == 0 && !op.Not && !op.Left
}
