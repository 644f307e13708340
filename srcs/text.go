package srcs

import (
	"strings"

	"acequia/addr"
	"acequia/api"
)

const (
	comma = ","
	// none is the text of the empty set: without it, a text of no addresses would be no text at all.
	none = "-"
)

// Print is the text of the set l.
func Print(l []api.Addr) string {
	if len(l) == 0 {
		return none
	}
	var out strings.Builder
	for i, a := range l {
		if i > 0 {
			out.WriteString(comma)
		}
		out.WriteString(addr.Print(a))
	}
	return out.String()
}

// Parse is the set of which s is the text.
func Parse(s string) ([]api.Addr, api.Errno) {
	if s == none {
		return nil, api.OK
	}
	var out []api.Addr
	for text := range strings.SplitSeq(s, comma) {
		a, err := addr.Parse(text)
		if err != api.OK {
			return nil, api.ErrForm
		}
		out = append(out, a)
	}
	if !Good(out) {
		return nil, api.ErrForm
	}
	return out, api.OK
}
