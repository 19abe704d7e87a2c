package early_test

import (
	"strings"
	"testing"

	"tinder/api"
	"tinder/early"
)

// told fails unless Flags tells that, and what the chapter's words say.
func told(t *testing.T, text string, want api.Flags, is bool) {
	t.Helper()
	got, ok := early.Flags(text)
	if got != want || ok != is {
		t.Errorf("%.60q: %v, %v; want %v, %v", text, got, ok, want, is)
	}
	if model, right := modelFlags(text); got != model || ok != right {
		t.Errorf("%.60q: %v, %v; in the chapter's words %v, %v", text, got, ok, model, right)
	}
}

// TestFlags: P10.2, what each sign sets, alone and with others, in any order.
func TestFlags(t *testing.T) {
	told(t, "", api.Flags{}, true)
	told(t, "i", api.Flags{Fold: true}, true)
	told(t, "m", api.Flags{Lines: true}, true)
	told(t, "s", api.Flags{All: true}, true)
	told(t, "y", api.Flags{Sticky: true}, true)
	told(t, "im", api.Flags{Fold: true, Lines: true}, true)
	told(t, "mi", api.Flags{Fold: true, Lines: true}, true)
	told(t, "sy", api.Flags{All: true, Sticky: true}, true)
	told(t, "ysm", api.Flags{Lines: true, All: true, Sticky: true}, true)
	told(t, "imsy", api.Flags{Fold: true, Lines: true, All: true, Sticky: true}, true)
	told(t, "ymis", api.Flags{Fold: true, Lines: true, All: true, Sticky: true}, true)
}

// TestFlagsTwice: P10.2, no sign may be there twice, whatever stands between.
func TestFlagsTwice(t *testing.T) {
	for _, text := range []string{"ii", "mm", "ss", "yy", "imi", "msym", "ysmiy", "imsyi", "imsym", "imsys", "imsyy", "iii", "imsyimsy"} {
		told(t, text, api.Flags{}, false)
	}
}

// TestFlagsWrong: P10.2, no other byte may be there, ahead of flags, behind or between.
func TestFlagsWrong(t *testing.T) {
	for _, text := range []string{"g", "u", "d", "v", "x", "I", "M", "S", "Y", " ", "i ", " i", "i,m", "i\x00", "\x00", "im\n", "\xFF", "é", "i\u0307", "ſ", "\u0131", "1", "-i", "imsyg", "gi", "iGm", "/i", "imu"} {
		told(t, text, api.Flags{}, false)
	}
	for b := range 256 {
		text := string([]byte{byte(b)})
		_, is := early.Flags(text)
		if is != strings.Contains("imsy", text) {
			t.Errorf("%q: %v", text, is)
		}
	}
}

// TestAllFlags: P10.2, all texts of two bytes, and all short ones of some signs, held against the chapter's words.
func TestAllFlags(t *testing.T) {
	for a := range 256 {
		for b := range 256 {
			text := string([]byte{byte(a), byte(b)})
			want, is := modelFlags(text)
			told(t, text, want, is)
		}
	}
	right := 0
	each(strings.Split("imsyg", ""), 6, func(text string) {
		want, is := modelFlags(text)
		told(t, text, want, is)
		if is {
			right++
		}
	})
	// One of none, four of one, twelve of two, twenty-four of three, and of all four.
	if right != 1+4+12+24+24 {
		t.Error(right)
	}
}

// TestLongFlags: P10.2, R1, R7, long texts come to an end.
func TestLongFlags(t *testing.T) {
	for _, text := range []string{"i", "imsy", "g", "\xFF"} {
		told(t, strings.Repeat(text, 1<<22), api.Flags{}, false)
	}
	told(t, "imsy"+strings.Repeat("\x00", 1<<22), api.Flags{}, false)
}

// TestFlagsAgain: R4, one text is answered alike each time.
func TestFlagsAgain(t *testing.T) {
	for range 100 {
		told(t, "y", api.Flags{Sticky: true}, true)
		told(t, "", api.Flags{}, true)
		told(t, "ii", api.Flags{}, false)
		told(t, "i", api.Flags{Fold: true}, true)
	}
}
