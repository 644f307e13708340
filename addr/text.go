package addr

import (
	"strconv"
	"strings"

	"acequia/api"
	"acequia/octet"
)

const (
	words = 8
	// longest is the size of the longest text of an address: eight numbers of four digits, and the colons between them.
	longest = 5*words - 1
)

// Print is the text of a.
func Print(a api.Addr) string {
	if a.V6 {
		return print6(a)
	}
	return join(a.B[:wide4], ".", 10)
}

// Parse is the address whose Print s is.
func Parse(s string) (api.Addr, api.Errno) {
	if len(s) > longest {
		return api.Addr{}, api.ErrForm
	}
	// rough takes other texts for addresses too; only the one that Print gives back counts.
	a, err := Read(rough(s))
	if err != api.OK || Print(a) != s {
		return api.Addr{}, api.ErrForm
	}
	return a, api.OK
}

// PrintMac is the text of m.
func PrintMac(m api.Mac) string {
	parts := make([]string, 0, len(m))
	for _, b := range m {
		parts = append(parts, octet.Hex(string([]byte{b})))
	}
	return strings.Join(parts, ":")
}

// ParseMac is the address of Ethernet whose PrintMac s is.
func ParseMac(s string) (api.Mac, api.Errno) {
	var m api.Mac
	if len(s) != len(PrintMac(m)) {
		return api.Mac{}, api.ErrForm
	}
	b, err := octet.Unhex(strings.ReplaceAll(s, ":", ""))
	copy(m[:], b)
	// Great letters and misplaced colons are seen by the text that comes back.
	if err != api.OK || PrintMac(m) != s {
		return api.Mac{}, api.ErrForm
	}
	return m, api.OK
}

// print6 is the text of an address of IPv6.
func print6(a api.Addr) string {
	r, list := octet.New(Bytes(a)), [words]uint16{}
	for i := range list {
		list[i] = uint16(r.Num(2))
	}
	first, size := gap(list)
	if size < 2 {
		return join(list[:], ":", 16)
	}
	return join(list[:first], ":", 16) + "::" + join(list[first+size:], ":", 16)
}

// gap is where the longest run of zeros begins, the first one of several, and how long it is.
func gap(list [words]uint16) (int, int) {
	first, most, run := 0, 0, 0
	for i, n := range list {
		run++
		if n != 0 {
			run = 0
		}
		if run > most {
			first, most = i+1-run, run
		}
	}
	return first, most
}

// join is the digits of all numbers to that base, with between between them.
func join[N byte | uint16](list []N, between string, base int) string {
	parts := make([]string, 0, len(list))
	for _, n := range list {
		parts = append(parts, strconv.FormatUint(uint64(n), base))
	}
	return strings.Join(parts, between)
}

// rough is the bytes of the address that s tells, if s is the text of one.
func rough(s string) string {
	if !strings.Contains(s, ":") {
		return split(s, ".", 10, 1)
	}
	before, after, _ := strings.Cut(s, "::")
	head, tail := split(before, ":", 16, 2), split(after, ":", 16, 2)
	// Numbers that are missing though no :: stands for them are 0 as well: Parse looks at the text again.
	return head + strings.Repeat("\x00", max(wide6-len(head)-len(tail), 0)) + tail
}

// split is the bytes of all numbers of s, which have that base and width and stand apart by between; none, if s is empty.
func split(s, between string, base, wide int) string {
	if s == "" {
		return ""
	}
	out := ""
	for _, part := range strings.Split(s, between) {
		// What is no number may count as any, for the same reason.
		n, _ := strconv.ParseUint(part, base, 8*wide)
		out += octet.Put(n, wide)
	}
	return out
}
