package ip4

import "acequia/api"

const (
	// An option is its kind, its size, and what it tells: this one, that routers are to look at the packet.
	routerAlert = "\x94\x04\x00\x00"
	kindEnd     = 0
	kindPad     = 1
	minOption   = 2
)

// options is the bytes of the options that p is written with.
func options(p api.Ip4) string {
	if p.Alert {
		return routerAlert
	}
	return ""
}

// readOptions is whether there is a Router Alert among the options s, and whether they are valid.
func readOptions(s string) (alert, valid bool) {
	for len(s) > 0 && s[0] != kindEnd {
		size := optionSize(s)
		if size == 0 {
			return false, false
		}
		alert = alert || s[:size] == routerAlert
		s = s[size:]
	}
	return alert, true
}

// optionSize is how many bytes the first option of s takes; 0 if it is not valid.
func optionSize(s string) int {
	switch {
	case s[0] == kindPad:
		return 1
	case len(s) < minOption || s[1] < minOption || int(s[1]) > len(s):
		return 0
	}
	return int(s[1])
}
