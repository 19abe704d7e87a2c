package early

import (
	"tinder/api"
)

// flagsOf are the flags that some signs set, and whether each sign sets one that is not set yet.
func flagsOf(signs ...byte) (api.Flags, bool) {
	var flags api.Flags
	sets := setters(&flags)
	for _, sign := range signs {
		set, is := sets[sign]
		if !is {
			return api.Flags{}, false
		}
		before := flags
		set()
		// A sign that changes nothing stands there twice.
		if flags == before {
			return api.Flags{}, false
		}
	}
	return flags, true
}

// setters are what sets flags, by their signs.
func setters(flags *api.Flags) map[byte]func() {
	return map[byte]func(){
		'i': func() { flags.Fold = true },
		'm': func() { flags.Lines = true },
		's': func() { flags.All = true },
		'y': func() { flags.Sticky = true },
	}
}
