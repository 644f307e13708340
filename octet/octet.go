// Package octet is layer 1: numbers and bytes: see DOC.md and doc/01-octet.md.
package octet

import "acequia/api"

const (
	maxWide = 8
	maxBits = 64
	digits  = "0123456789abcdef"
)

// Put is the lowest bytes of n, wide of them, the highest first.
func Put(n uint64, wide int) string {
	wide = clamp(wide, maxWide)
	out := make([]byte, wide)
	for i := range wide {
		out[wide-1-i] = byte(n >> (8 * i))
	}
	return string(out)
}

// Get is the number that the bytes of s from at on hold, wide of them.
func Get(s string, at, wide int) (uint64, api.Errno) {
	if wide < 0 || wide > maxWide || at < 0 {
		return 0, api.ErrArg
	}
	// at+wide may be more than an int holds; this can't be less than one does.
	if at > len(s)-wide {
		return 0, api.ErrEnd
	}
	return number(s[at : at+wide]), api.OK
}

// Bits is the number that the bits of n from from on upwards make, wide of them.
func Bits(n uint64, from, wide int) uint64 {
	return n >> clamp(from, maxBits) & ones(wide)
}

// Set is n with the bits that Bits would read replaced by the lowest ones of v.
func Set(n uint64, from, wide int, v uint64) uint64 {
	from = clamp(from, maxBits)
	mask := ones(wide) << from
	return n&^mask | v<<from&mask
}

// Hex is two digits for each byte of s.
func Hex(s string) string {
	out := make([]byte, 0, 2*len(s))
	for i := range len(s) {
		out = append(out, digits[s[i]>>4], digits[s[i]&15])
	}
	return string(out)
}

// Unhex is the bytes whose Hex s is, in small or great letters.
func Unhex(s string) (string, api.Errno) {
	if len(s)%2 != 0 {
		return "", api.ErrForm
	}
	out := make([]byte, len(s)/2)
	for i := range len(out) {
		high, okHigh := digit(s[2*i])
		low, okLow := digit(s[2*i+1])
		if !okHigh || !okLow {
			return "", api.ErrForm
		}
		out[i] = high<<4 | low
	}
	return string(out), api.OK
}

// clamp is n, held between 0 and most.
func clamp(n, most int) int {
	return min(max(n, 0), most)
}

// ones is the number whose lowest bits, wide of them, are set.
func ones(wide int) uint64 {
	// With 64 the shift leaves 0, and 0 less 1 has all bits set.
	return 1<<clamp(wide, maxBits) - 1
}

// number is the number that all of s holds.
func number(s string) uint64 {
	n := uint64(0)
	for i := range len(s) {
		n = n<<8 | uint64(s[i])
	}
	return n
}

// digit is the worth of a hexadecimal digit, and whether c is one.
func digit(c byte) (byte, bool) {
	switch {
	case c >= '0' && c <= '9':
		return c - '0', true
	case c >= 'a' && c <= 'f':
		return c - 'a' + 10, true
	case c >= 'A' && c <= 'F':
		return c - 'A' + 10, true
	}
	return 0, false
}
