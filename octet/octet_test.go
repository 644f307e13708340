package octet

import (
	"encoding/binary"
	"encoding/hex"
	"math"
	"strings"
	"testing"

	"acequia/api"
)

// numbers are some whose bits differ at every border: between bytes, in the middle, at both ends.
func numbers() []uint64 {
	out := []uint64{0, 1, 0xff, 0x100, 0xe5, 258, 0x0102030405060708, 0xf1e2d3c4b5a69788, 1 << 62, 1 << 63, math.MaxUint64}
	for i := range 64 {
		out = append(out, 1<<i, 1<<i-1, math.MaxUint64-1<<i)
	}
	return out
}

// bounds are arguments below, at and beyond all the borders that the chapter names.
func bounds() []int {
	out := []int{math.MinInt, math.MinInt + 1, -64, -9, -8, -1}
	for i := range 67 {
		out = append(out, i)
	}
	return append(out, 128, 1<<32, math.MaxInt-1, math.MaxInt)
}

// held is n between 0 and most, worked out by cases.
func held(n, most int) int {
	if n < 0 {
		return 0
	}
	if n > most {
		return most
	}
	return n
}

func TestPut(t *testing.T) {
	for _, x := range []struct {
		n    uint64
		wide int
		want string
	}{
		{258, 3, "\x00\x01\x02"},
		{258, 2, "\x01\x02"},
		{258, 1, "\x02"},
		{258, 0, ""},
		{258, -1, ""},
		{258, math.MinInt, ""},
		{1 << 40, 4, "\x00\x00\x00\x00"},
		{0, 2, "\x00\x00"},
		{0x0102030405060708, 7, "\x02\x03\x04\x05\x06\x07\x08"},
		{0x0102030405060708, 8, "\x01\x02\x03\x04\x05\x06\x07\x08"},
		{0x0102030405060708, 9, "\x01\x02\x03\x04\x05\x06\x07\x08"},
		{1, math.MaxInt, "\x00\x00\x00\x00\x00\x00\x00\x01"},
		{math.MaxUint64, 8, "\xff\xff\xff\xff\xff\xff\xff\xff"},
	} {
		if got := Put(x.n, x.wide); got != x.want {
			t.Errorf("Put(%#x, %d) = %x, not %x", x.n, x.wide, got, x.want)
		}
	}
}

func TestPutAllWidths(t *testing.T) {
	for _, n := range numbers() {
		all := string(binary.BigEndian.AppendUint64(nil, n))
		for _, wide := range bounds() {
			want := all[8-held(wide, 8):]
			if got := Put(n, wide); got != want {
				t.Errorf("Put(%#x, %d) = %x, not %x", n, wide, got, want)
			}
		}
	}
}

func TestGet(t *testing.T) {
	const s = "\x00\x01\x02\xff\x80\x00\x07\x08\x09"
	for _, x := range []struct {
		s        string
		at, wide int
		want     uint64
		err      api.Errno
	}{
		{s, 0, 1, 0, api.OK},
		{s, 0, 2, 1, api.OK},
		{s, 1, 2, 258, api.OK},
		{s, 3, 1, 255, api.OK},
		{s, 3, 2, 0xff80, api.OK},
		{s, 0, 8, 0x000102ff80000708, api.OK},
		{s, 1, 8, 0x0102ff8000070809, api.OK},
		{s, 8, 1, 9, api.OK},
		{"\xff\xff\xff\xff\xff\xff\xff\xff", 0, 8, math.MaxUint64, api.OK},
		{s, 0, 0, 0, api.OK},
		{s, 4, 0, 0, api.OK},
		{s, 9, 0, 0, api.OK},
		{"", 0, 0, 0, api.OK},
		{s, 10, 0, 0, api.ErrEnd},
		{"", 1, 0, 0, api.ErrEnd},
		{"", 0, 1, 0, api.ErrEnd},
		{s, 2, 8, 0, api.ErrEnd},
		{s, 8, 2, 0, api.ErrEnd},
		{s, 9, 1, 0, api.ErrEnd},
		{s, math.MaxInt, 0, 0, api.ErrEnd},
		{s, math.MaxInt, 1, 0, api.ErrEnd},
		{s, math.MaxInt, 8, 0, api.ErrEnd},
		{s, 0, 9, 0, api.ErrArg},
		{s, 0, math.MaxInt, 0, api.ErrArg},
		{s, 0, -1, 0, api.ErrArg},
		{s, 1, -1, 0, api.ErrArg},
		{s, 0, math.MinInt, 0, api.ErrArg},
		{s, -1, 1, 0, api.ErrArg},
		{s, -1, 0, 0, api.ErrArg},
		{s, math.MinInt, 8, 0, api.ErrArg},
		{"", 5, 9, 0, api.ErrArg},
		{"", -5, 8, 0, api.ErrArg},
		{s, math.MaxInt, math.MaxInt, 0, api.ErrArg},
		{s, math.MinInt, math.MinInt, 0, api.ErrArg},
	} {
		if got, err := Get(x.s, x.at, x.wide); got != x.want || err != x.err {
			t.Errorf("Get(%x, %d, %d) = %#x, %d, not %#x, %d", x.s, x.at, x.wide, got, err, x.want, x.err)
		}
	}
}

func TestHex(t *testing.T) {
	for _, x := range []struct{ s, want string }{
		{"", ""},
		{"\x00", "00"},
		{"\x0a\xff", "0aff"},
		{"\x12\x34\xab", "1234ab"},
		{"acequia", "61636571756961"},
	} {
		if got := Hex(x.s); got != x.want {
			t.Errorf("Hex(%x) = %q, not %q", x.s, got, x.want)
		}
	}
	for c := range 256 {
		s := string([]byte{byte(c)})
		if got := Hex(s); got != hex.EncodeToString([]byte(s)) {
			t.Errorf("Hex(%x) = %q", s, got)
		}
	}
}

func TestUnhex(t *testing.T) {
	for _, x := range []struct{ s, want string }{
		{"", ""},
		{"00", "\x00"},
		{"0aFf", "\x0a\xff"},
		{"abcdef", "\xab\xcd\xef"},
		{"ABCDEF", "\xab\xcd\xef"},
		{"aAFf09", "\xaa\xff\x09"},
	} {
		if got, err := Unhex(x.s); got != x.want || err != api.OK {
			t.Errorf("Unhex(%q) = %x, %d", x.s, got, err)
		}
	}
}

func TestUnhexWrong(t *testing.T) {
	for _, s := range []string{"0", "000", "g", "0g", "g0", "00g", "00g0", "000g", "0x", "0x12", " 1", "1 ", "-1", "+1", "1_", "\n0", "\x00\x00", "é", "٠٠", "00000000000000/0"} {
		if got, err := Unhex(s); got != "" || err != api.ErrForm {
			t.Errorf("Unhex(%q) = %x, %d", s, got, err)
		}
	}
}

// TestUnhexPairs holds every pair of bytes against the digits as the chapter lists them.
func TestUnhexPairs(t *testing.T) {
	for c := range 256 {
		for d := range 256 {
			s := string([]byte{byte(c), byte(d)})
			high, low := strings.Index("0123456789abcdef", strings.ToLower(s[:1])), strings.Index("0123456789abcdef", strings.ToLower(s[1:]))
			want, werr := "", api.ErrForm
			if high >= 0 && low >= 0 {
				want, werr = string([]byte{byte(16*high + low)}), api.OK
			}
			if got, err := Unhex(s); got != want || err != werr {
				t.Fatalf("Unhex(%q) = %x, %d, not %x, %d", s, got, err, want, werr)
			}
		}
	}
}

func TestBits(t *testing.T) {
	for _, x := range []struct {
		n          uint64
		from, wide int
		want       uint64
	}{
		{0xe5, 4, 4, 14},
		{0xe5, 0, 4, 5},
		{0xe5, 0, 0, 0},
		{0xe5, 4, -1, 0},
		{0xe5, 0, 1, 1},
		{5, -1, 1, 1},
		{5, math.MinInt, 3, 5},
		{5, 64, 3, 0},
		{math.MaxUint64, 64, 64, 0},
		{math.MaxUint64, math.MaxInt, 64, 0},
		{1 << 63, 63, 1, 1},
		{1 << 63, 63, 9, 1},
		{math.MaxUint64, 62, math.MaxInt, 3},
		{math.MaxUint64, 0, 64, math.MaxUint64},
		{math.MaxUint64, -1, 65, math.MaxUint64},
		{math.MaxUint64, 0, 63, math.MaxUint64 >> 1},
		{math.MaxUint64, 5, math.MinInt, 0},
	} {
		if got := Bits(x.n, x.from, x.wide); got != x.want {
			t.Errorf("Bits(%#x, %d, %d) = %#x, not %#x", x.n, x.from, x.wide, got, x.want)
		}
	}
}

func TestSet(t *testing.T) {
	for _, x := range []struct {
		n          uint64
		from, wide int
		v          uint64
		want       uint64
	}{
		{0xff, 4, 2, 0, 0xcf},
		{0, 4, 4, 0xe, 0xe0},
		{0, 4, 4, 0xfe, 0xe0},
		{0, 62, 4, 15, 3 << 62},
		{0, 63, 1, 3, 1 << 63},
		{7, 1, 0, 9, 7},
		{7, 1, -1, 9, 7},
		{7, 1, math.MinInt, 9, 7},
		{0, 0, 64, math.MaxUint64, math.MaxUint64},
		{math.MaxUint64, -1, 65, 5, 5},
		{6, -1, 1, 1, 7},
		{6, math.MinInt, 1, 1, 7},
		{7, 64, 1, 1, 7},
		{7, math.MaxInt, math.MaxInt, math.MaxUint64, 7},
		{math.MaxUint64, 8, 64, 0, 0xff},
	} {
		if got := Set(x.n, x.from, x.wide, x.v); got != x.want {
			t.Errorf("Set(%#x, %d, %d, %#x) = %#x, not %#x", x.n, x.from, x.wide, x.v, got, x.want)
		}
	}
}

// bit is bit i of n; there is none from 64 on.
func bit(n uint64, i int) uint64 {
	if i >= 64 {
		return 0
	}
	return n >> i & 1
}

// TestBitsOneByOne works out Bits and Set for one bit after the other.
func TestBitsOneByOne(t *testing.T) {
	values := []uint64{0, 1, 0xe5, 0x0102030405060708, 0xf1e2d3c4b5a69788, math.MaxUint64}
	for _, n := range values {
		for _, from := range bounds() {
			for _, wide := range bounds() {
				first, count := held(from, 64), held(wide, 64)
				want := uint64(0)
				for i := range count {
					want |= bit(n, first+i) << i
				}
				if got := Bits(n, from, wide); got != want {
					t.Fatalf("Bits(%#x, %d, %d) = %#x, not %#x", n, from, wide, got, want)
				}
				for _, v := range values {
					want = 0
					for i := range 64 {
						if i >= first && i < first+count {
							want |= bit(v, i-first) << i
						} else {
							want |= bit(n, i) << i
						}
					}
					if got := Set(n, from, wide, v); got != want {
						t.Fatalf("Set(%#x, %d, %d, %#x) = %#x, not %#x", n, from, wide, v, got, want)
					}
				}
			}
		}
	}
}

func TestGetOfPut(t *testing.T) {
	for _, n := range numbers() {
		for wide := range 9 {
			want := n
			if wide < 8 {
				want = n % (1 << (8 * wide))
			}
			s := Put(n, wide)
			if got, err := Get(s, 0, wide); got != want || err != api.OK {
				t.Errorf("Get of Put(%#x, %d) = %#x, %d", n, wide, got, err)
			}
			if got, err := Get("ab"+s+"c", 2, wide); got != want || err != api.OK {
				t.Errorf("Get of Put(%#x, %d) among others = %#x, %d", n, wide, got, err)
			}
		}
	}
}

func TestUnhexOfHex(t *testing.T) {
	all := ""
	for c := range 256 {
		all += string([]byte{byte(c)})
	}
	for n := range len(all) + 1 {
		s := all[:n]
		if got, err := Unhex(Hex(s)); got != s || err != api.OK {
			t.Errorf("Unhex of Hex(%x) = %x, %d", s, got, err)
		}
		if got, err := Unhex(strings.ToUpper(Hex(s))); got != s || err != api.OK {
			t.Errorf("Unhex of the great letters of Hex(%x) = %x, %d", s, got, err)
		}
	}
}

func TestBitsOfSet(t *testing.T) {
	for _, n := range []uint64{0, 0xf1e2d3c4b5a69788, math.MaxUint64} {
		for _, v := range numbers() {
			for from := range 65 {
				for wide := range 65 - from {
					want := v
					if wide < 64 {
						want = v % (1 << wide)
					}
					if got := Bits(Set(n, from, wide, v), from, wide); got != want {
						t.Fatalf("Bits of Set(%#x, %d, %d, %#x) = %#x", n, from, wide, v, got)
					}
				}
			}
		}
	}
}
