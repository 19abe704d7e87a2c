package points_test

import (
	"slices"
	"strings"
	"testing"

	"tinder/api"
	"tinder/points"
)

// TestMemory: R3, the row that Text is given is not changed, not even behind its end, and not kept.
func TestMemory(t *testing.T) {
	for _, l := range append(rows(), wrong, []int{0x61, 0xD800, 0x62}, make([]int, api.MaxText+1)) {
		row := append(slices.Clone(l), 11, 12, 13, 14)
		before := slices.Clone(row)
		given := row[:len(l)]
		s, ok := points.Text(given...)
		if !slices.Equal(row, before) {
			t.Fatalf("%x, %x", row, before)
		}
		kept := strings.Clone(s)
		for i := range row {
			row[i] = 99
		}
		if again, is := points.Text(l...); s != kept || again != kept || is != ok {
			t.Fatalf("%x: %q, %q, %v", l, s, again, is)
		}
	}
}

// TestAnswersApart: R3, R4, one text asked twice is answered alike, in memories apart, up to their capacity.
func TestAnswersApart(t *testing.T) {
	texts := []string{"", "a", "\xC3", "a\xFF", strings.Repeat("a", api.MaxText+1)}
	for _, l := range rows() {
		s, _ := points.Text(l...)
		texts = append(texts, s)
	}
	for _, s := range texts {
		first, at, e := points.Of(s)
		want := slices.Clone(first)
		second, again, same := points.Of(s)
		whole := first[:cap(first)]
		for i := range whole {
			whole[i] = 99
		}
		third, _, _ := points.Of(s)
		if at != again || e != same || !slices.Equal(second, want) || !slices.Equal(third, want) {
			t.Errorf("%.40q: %.40x, %.40x, %d, %d, %v, %v", s, second, third, at, again, e, same)
		}
	}
}

// TestNilAndEmpty: R6, no code points have the empty text, whether their row is nil or not.
func TestNilAndEmpty(t *testing.T) {
	tells(t, "")
	tells(t, "", []int(nil)...)
	tells(t, "", []int{}...)
}
