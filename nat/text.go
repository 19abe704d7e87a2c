package nat

import (
	"strconv"
	"strings"

	"tinder/api"
)

// Decimal digits are read and written in groups, as many as one digit to 2^32 can hold.
const (
	digitBase  = 1 << 32
	groupBase  = 1_000_000_000
	groupWidth = 9
)

// Text is a number's decimal digits.
func Text(a api.Nat) string {
	groups := turned(row(a), digitBase, groupBase)
	if len(groups) == 0 {
		return "0"
	}
	var b strings.Builder
	for i := len(groups) - 1; i >= 0; i-- {
		s := strconv.FormatUint(uint64(groups[i]), 10)
		if b.Len() > 0 {
			b.WriteString(strings.Repeat("0", groupWidth-len(s)))
		}
		b.WriteString(s)
	}
	return b.String()
}

// Parse is the number of a text.
func Parse(s string) (api.Nat, bool) {
	if !decimal(s) {
		return api.Nat{}, false
	}
	groups := make(digits, 0, len(s)/groupWidth+1)
	for end := len(s); end > 0; end -= groupWidth {
		g, _ := strconv.ParseUint(s[max(0, end-groupWidth):end], 10, 32)
		groups = append(groups, uint32(g))
	}
	return number{turned(groups, groupBase, digitBase)}.nat(), true
}

// decimal says whether a text is a number's: digits alone, and no 0 ahead of others.
func decimal(s string) bool {
	if s == "" || s[0] == '0' && len(s) > 1 {
		return false
	}
	for i := range len(s) {
		if s[i] < '0' || s[i] > '9' {
			return false
		}
	}
	return true
}
