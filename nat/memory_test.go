package nat_test

import (
	"math"
	"slices"
	"testing"

	"tinder/api"
	"tinder/nat"
)

// guarded are numbers that lie within longer rows: what a call writes, even behind their ends, is seen in the rows.
func guarded() (l []api.Nat, rows [][]uint32) {
	for _, digits := range [][]uint32{{}, {0}, {1}, {7, 0}, {math.MaxUint32, math.MaxUint32}, {1, 2, 3, 0, 0}} {
		row := append(slices.Clone(digits), 11, 12, 13, 14)
		rows = append(rows, row)
		l = append(l, api.Nat{Digits: row[:len(digits)]})
	}
	return l, rows
}

// answers are all numbers that the calls tell of two.
func answers(a, b api.Nat) []api.Nat {
	l := []api.Nat{nat.Add(a), nat.Add(a, b), nat.Add(b, a, a), nat.Add(a, api.Nat{}), nat.Mul(a), nat.Mul(a, b), nat.Mul(b, a, a), nat.Mul(a, nat.Of(1))}
	for n := range 4 {
		p, _ := nat.Pow(a, n)
		l = append(l, p)
	}
	d, _ := nat.Sub(a, b)
	whole, _ := nat.Sub(a, api.Nat{})
	parsed, _ := nat.Parse(nat.Text(a))
	return append(l, d, whole, parsed)
}

// TestMemory: R3, no argument is changed, and what is handed out is new memory, up to its capacity.
func TestMemory(t *testing.T) {
	l, rows := guarded()
	var before [][]uint32
	for _, row := range rows {
		before = append(before, slices.Clone(row))
	}
	for _, a := range l {
		for _, b := range l {
			nat.Right(a)
			nat.Cmp(a, b)
			for _, got := range answers(a, b) {
				whole := got.Digits[:cap(got.Digits)]
				for i := range whole {
					whole[i] = 99
				}
			}
			for i, row := range rows {
				if !slices.Equal(row, before[i]) {
					t.Fatal(a, b, row, before[i])
				}
			}
		}
	}
}

// TestRowOfArguments: R3, the row itself that a variadic call is given is not changed or kept.
func TestRowOfArguments(t *testing.T) {
	l, _ := guarded()
	sum, product := nat.Add(l[2:]...), nat.Mul(l[2:]...)
	texts := []string{nat.Text(sum), nat.Text(product)}
	fresh, _ := guarded()
	for i, a := range l {
		if !slices.Equal(a.Digits, fresh[i].Digits) {
			t.Error(i, a)
		}
		l[i] = nat.Of(1)
	}
	if nat.Text(sum) != texts[0] || nat.Text(product) != texts[1] {
		t.Error(sum, product)
	}
}

// TestAnswersApart: R3, R4, one thing asked twice is answered alike, in memories apart.
func TestAnswersApart(t *testing.T) {
	l, _ := guarded()
	for _, a := range l {
		for _, b := range l {
			first, second := answers(a, b), answers(a, b)
			for i := range first {
				want := nat.Text(first[i])
				for j := range first[i].Digits {
					first[i].Digits[j] = 99
				}
				if nat.Text(second[i]) != want {
					t.Error(a, b, i)
				}
			}
		}
	}
	for range 2 {
		zero, one := nat.Add(), nat.Mul()
		if len(zero.Digits) != 0 || !slices.Equal(one.Digits, []uint32{1}) {
			t.Error(zero, one)
		}
		one.Digits[0] = 99
	}
}

// TestNilAndEmpty: R6, a number without digits is 0, whether its row is nil or not.
func TestNilAndEmpty(t *testing.T) {
	for _, a := range []api.Nat{{}, {Digits: []uint32{}}} {
		if !nat.Right(a) || nat.Text(a) != "0" || nat.Cmp(a, api.Nat{}) != 0 || len(nat.Add(a, a).Digits) != 0 {
			t.Error(a)
		}
	}
}
