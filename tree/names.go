package tree

import (
	"slices"
	"strings"

	"tinder/api"
)

// named says whether names are a tree's.
func named(names []string) bool {
	if len(names) > api.MaxGroups {
		return false
	}
	for i, name := range names {
		if name != "" && (!isName(name) || slices.Contains(names[:i], name)) {
			return false
		}
	}
	return true
}

func isName(text string) bool {
	return 0 < len(text) && len(text) <= api.MaxName && !digit(rune(text[0])) && !strings.ContainsFunc(text, func(c rune) bool { return !sign(c) })
}

func sign(c rune) bool {
	return 'a' <= c && c <= 'z' || 'A' <= c && c <= 'Z' || digit(c) || c == '_' || c == '$'
}

func digit(c rune) bool {
	return '0' <= c && c <= '9'
}
