package sum

import (
	"encoding/binary"
	"math"
	"slices"
	"strings"
	"testing"

	"acequia/api"
)

// wordsOf are the words of s, with a byte 0 behind the last one if their number is odd.
func wordsOf(s string) []int {
	if len(s)%2 != 0 {
		s += "\x00"
	}
	var out []int
	for i := 0; i < len(s); i += 2 {
		out = append(out, int(binary.BigEndian.Uint16([]byte(s[i:]))))
	}
	return out
}

// textOf is the text of which these are the words.
func textOf(words ...int) string {
	var out []byte
	for _, w := range words {
		out = binary.BigEndian.AppendUint16(out, uint16(w))
	}
	return string(out)
}

// slow is the sum of s, word by word, each carry added as soon as it is there.
func slow(s string) int {
	sum := 0
	for _, w := range wordsOf(s) {
		sum += w
		if sum > 65535 {
			sum = sum - 65536 + 1
		}
	}
	return sum
}

// noise is a text of that many bytes, which looks like any; the same for the same arguments.
func noise(size, seed int) string {
	out, state := make([]byte, size), uint32(seed)*2654435761+1
	for i := range out {
		state = state*1664525 + 1013904223
		out[i] = byte(state >> 24)
	}
	return string(out)
}

// texts are some of every small size: zeros, ones, high and low bytes alone, and any.
func texts() []string {
	out := []string{"", "\x00\xff", "\xff\x00", "\xff\xfe\x00\x01", "\xff\xff\x00\x01", "\xff\xff\xff\xff\x00\x01", "\x80\x00\x80\x00", "\x80\x00\x80\x01", "\x01\x02\x03"}
	for size := range 24 {
		for _, piece := range []string{"\x00", "\xff", "\xff\x00", "\x00\xff", "\xff\xfe", "\x80"} {
			out = append(out, strings.Repeat(piece, size)[:size])
		}
		for seed := range 4 {
			out = append(out, noise(size, seed))
		}
	}
	return out
}

func TestFold(t *testing.T) {
	for _, x := range []struct {
		n    uint64
		want int
	}{
		{0, 0},
		{1, 1},
		{65534, 65534},
		{65535, 65535},
		{65536, 1},
		{65537, 2},
		{0x1fffe, 65535},
		{0x1ffff, 1},
		{0x20000, 2},
		{0xfffffffe, 65534},
		{0xffffffff, 65535},
		{1 << 32, 1},
		{1 << 48, 1},
		{0x0001000200030004, 10},
		{0xffff000000000000, 65535},
		{0xffff000000000001, 1},
		{0xffffffff00000000, 65535},
		{0x0000ffffffff0001, 1},
		{0xffffffffffff0002, 2},
		{0x1234567812345678, 0xd158},
		{math.MaxUint64 - 1, 65534},
		{math.MaxUint64, 65535},
	} {
		if got := Fold(x.n); got != x.want {
			t.Errorf("Fold(%#x) = %#x, not %#x", x.n, got, x.want)
		}
	}
}

// TestFoldAsRemainder uses that a number and its fold differ by a multiple of 65535, and that only 0 folds to 0.
func TestFoldAsRemainder(t *testing.T) {
	check := func(n uint64) {
		t.Helper()
		want := 0
		if n > 0 {
			want = int((n-1)%65535) + 1
		}
		if got := Fold(n); got != want {
			t.Fatalf("Fold(%#x) = %#x, not %#x", n, got, want)
		}
	}
	for n := range uint64(1 << 18) {
		check(n)
		check(math.MaxUint64 - n)
		check(n * 65535)
		check(n << 16)
		check(n << 46)
		check(n * 0x9e3779b97f4a7c15)
	}
	edges := []uint64{0, 1, 2, 0x7fff, 0x8000, 0xfffd, 0xfffe, 0xffff}
	for _, a := range edges {
		for _, b := range edges {
			for _, c := range edges {
				for _, d := range edges {
					check(a<<48 | b<<32 | c<<16 | d)
				}
			}
		}
	}
}

// sums are texts in parts, and their sums worked out by hand.
func sums() []struct {
	parts []string
	want  int
} {
	return []struct {
		parts []string
		want  int
	}{
		{nil, 0},
		{[]string{""}, 0},
		{[]string{"", "", ""}, 0},
		{[]string{"\x00"}, 0},
		{[]string{"\x00\x00\x00\x00"}, 0},
		{[]string{"\x01"}, 0x0100},
		{[]string{"", "\x01", ""}, 0x0100},
		{[]string{"\x01\x02"}, 0x0102},
		{[]string{"\x01\x02\x03"}, 0x0402},
		{[]string{"\x01\x02", "\x03"}, 0x0402},
		{[]string{"\x01", "\x02\x03"}, 0x0402},
		{[]string{"\x01", "", "\x02", "", "\x03"}, 0x0402},
		{[]string{"\x01", "\x02", "\x03", "\x04"}, 0x0406},
		{[]string{"\x01\x02\x03", "\x04\x05"}, 0x0906},
		{[]string{"\x01\x02\x03", "\x04\x05\x06", "\x07\x08"}, 0x1014},
		{[]string{"\xff\xff"}, 0xffff},
		{[]string{"\xff\xff\xff\xff"}, 0xffff},
		{[]string{"\xff\xff\x00\x01"}, 0x0001},
		{[]string{"\xff\xff", "\xff\xff", "\x00\x01"}, 0x0001},
		{[]string{"\xff\xfe\x00\x01"}, 0xffff},
		{[]string{"\x80\x00\x80\x00"}, 0x0001},
		{[]string{"\xff"}, 0xff00},
		{[]string{"\xff", "\xff", "\xff"}, 0xff00},
		{[]string{"\x00\x01\xf2\x03\xf4\xf5\xf6\xf7"}, 0xddf2},
	}
}

func TestSum(t *testing.T) {
	for _, x := range sums() {
		if got := Sum(x.parts...); got != x.want {
			t.Errorf("Sum(%x) = %#x, not %#x", x.parts, got, x.want)
		}
	}
	if Sum() != 0 || Check() != 65535 || Good() {
		t.Error("no parts")
	}
}

func TestCheckAndGood(t *testing.T) {
	for _, x := range sums() {
		if got := Check(x.parts...); got != 65535-x.want {
			t.Errorf("Check(%x) = %#x, not %#x", x.parts, got, 65535-x.want)
		}
		if got := Good(x.parts...); got != (x.want == 65535) {
			t.Errorf("Good(%x) = %v", x.parts, got)
		}
	}
}

// TestKnownTexts holds Good against headers and messages as they stand in the world.
func TestKnownTexts(t *testing.T) {
	const (
		header = "\x45\x00\x00\x73\x00\x00\x40\x00\x40\x11\xb8\x61\xc0\xa8\x00\x01\xc0\xa8\x00\xc7"
		query  = "\x11\x64\xee\x9b\x00\x00\x00\x00"
	)
	if Check(header[:10], header[12:]) != 0xb861 || Check(query[:2], query[4:]) != 0xee9b {
		t.Error("check")
	}
	for _, s := range []string{header, query, header + query} {
		if !Good(s) {
			t.Errorf("%x isn't good", s)
		}
		for i := range len(s) {
			// To add one to a byte, wherever it is, changes the sum.
			if b := []byte(s); b[i] < 255 {
				b[i]++
				if Good(string(b)) {
					t.Errorf("%x is good", b)
				}
			}
		}
	}
}

// TestSumCut cuts texts into three parts at every two places, with empty ones between.
func TestSumCut(t *testing.T) {
	for _, s := range texts() {
		want := slow(s)
		for i := range len(s) + 1 {
			for j := i; j <= len(s); j++ {
				parts := []string{"", s[:i], "", s[i:j], s[j:], ""}
				if got := Sum(parts...); got != want {
					t.Fatalf("Sum(%x) = %#x, not %#x", parts, got, want)
				}
				if got := Check(parts...); got != 65535-want {
					t.Fatalf("Check(%x) = %#x, not %#x", parts, got, 65535-want)
				}
				if got := Good(parts...); got != (want == 65535) {
					t.Fatalf("Good(%x) = %v", parts, got)
				}
			}
		}
	}
}

// TestSumBytes gives each byte as a part of its own.
func TestSumBytes(t *testing.T) {
	for _, s := range texts() {
		if got := Sum(strings.Split(s, "")...); got != slow(s) {
			t.Errorf("Sum of the bytes of %x = %#x, not %#x", s, got, slow(s))
		}
	}
}

// TestSumLong has so many words that their plain sum is beyond 32 bits.
func TestSumLong(t *testing.T) {
	for _, piece := range []string{"\xff\xff", "\xff\xfe", "\xff", "\xfe\xff\x01", "\x00"} {
		s := strings.Repeat(piece, 150001)
		if got := Sum(s); got != slow(s) {
			t.Errorf("Sum of many %x = %#x, not %#x", piece, got, slow(s))
		}
		parts := slices.Repeat([]string{piece}, 150001)
		if got := Sum(parts...); got != slow(s) {
			t.Errorf("Sum of %x in many parts = %#x, not %#x", piece, got, slow(s))
		}
	}
}

// TestPartsStay looks at the parts behind the calls, those beyond the slice's end too.
func TestPartsStay(t *testing.T) {
	all := []string{"\x01", "\xff\xff\xff", "", "\x02\x03", "spare", "more"}
	parts := all[:4]
	first, check, good := Sum(parts...), Check(parts...), Good(parts...)
	if !slices.Equal(all, []string{"\x01", "\xff\xff\xff", "", "\x02\x03", "spare", "more"}) {
		t.Errorf("the parts became %x", all)
	}
	if Sum(parts...) != first || Check(parts...) != check || Good(parts...) != good {
		t.Error("the second time is another")
	}
}

func TestUpdate(t *testing.T) {
	for _, x := range []struct{ check, old, next, want int }{
		{0, 0, 0, 0},
		{65535, 0, 0, 0},
		{65535, 0, 1, 65534},
		{65534, 1, 0, 0},
		{65534, 1, 1, 65534},
		{0, 65535, 0, 0},
		{0, 65535, 65535, 0},
		{0xdd2f, 0x5555, 0x3285, 0x0000},
		{0xb861, 0x4011, 0x3f11, 0xb961},
		{0xff00, 0x0100, 0x0000, 0x0001},
		{0, 0x0100, 0x0000, 0x0100},
		{0xfeff, 0x0100, 0x0000, 0x0000},
		{1, 0, 65535, 1},
		{0x1234, 0x5678, 0x9abc, 0xcdef},
	} {
		if got := Update(x.check, x.old, x.next); got != x.want {
			t.Errorf("Update(%#x, %#x, %#x) = %#x, not %#x", x.check, x.old, x.next, got, x.want)
		}
	}
}

// TestUpdateByRule works it out as the chapter says it, for words at the borders and any.
func TestUpdateByRule(t *testing.T) {
	words := []int{0, 1, 2, 255, 256, 0x1234, 0x7fff, 0x8000, 0x8001, 0xabcd, 0xfeff, 0xff00, 65533, 65534, 65535}
	for _, check := range words {
		for _, old := range words {
			for _, next := range words {
				want := 65535 - Fold(uint64(65535-check+65535-old+next))
				if got := Update(check, old, next); got != want {
					t.Errorf("Update(%#x, %#x, %#x) = %#x, not %#x", check, old, next, got, want)
				}
			}
		}
	}
}

// TestUpdateReduced gives numbers that differ from words only beyond 16 bits.
func TestUpdateReduced(t *testing.T) {
	for _, x := range []struct{ n, want int }{
		{-1, 65535}, {-2, 65534}, {-65535, 1}, {-65536, 0}, {-65537, 65535},
		{65536, 0}, {65537, 1}, {131071, 65535}, {1 << 32, 0}, {1<<32 + 5, 5}, {1<<47 + 0xabcd, 0xabcd},
		{math.MinInt, 0}, {math.MinInt + 7, 7}, {math.MaxInt, 65535}, {math.MaxInt - 1, 65534},
	} {
		for _, other := range []int{0, 1, 0x1234, 65534, 65535} {
			for _, third := range []int{0, 0x8000, 65535} {
				if got, want := Update(x.n, other, third), Update(x.want, other, third); got != want {
					t.Errorf("Update(%d, %d, %d) = %d, not %d", x.n, other, third, got, want)
				}
				if got, want := Update(other, x.n, third), Update(other, x.want, third); got != want {
					t.Errorf("Update(%d, %d, %d) = %d, not %d", other, x.n, third, got, want)
				}
				if got, want := Update(other, third, x.n), Update(other, third, x.want); got != want {
					t.Errorf("Update(%d, %d, %d) = %d, not %d", other, third, x.n, got, want)
				}
			}
		}
	}
	if got := Update(-1, -65536, 1<<40+1); got != 65534 {
		t.Errorf("all at once: %d", got)
	}
}

// address is one whose sixteen bytes rise from first on.
func address(v6 bool, first byte) api.Addr {
	a := api.Addr{V6: v6}
	for i := range a.B {
		a.B[i] = first + byte(i)
	}
	return a
}

// v4 is an address as those of IPv4 are: all bytes behind the first four are 0.
func v4(a, b, c, d byte) api.Addr {
	return api.Addr{B: [16]byte{a, b, c, d}}
}

func TestPseudo4(t *testing.T) {
	from, to := v4(10, 0, 0, 9), v4(239, 1, 2, 3)
	const both = "\x0a\x00\x00\x09\xef\x01\x02\x03"
	for _, x := range []struct {
		proto, size int
		want        string
	}{
		{17, 258, "\x00\x11\x01\x02"},
		{2, 8, "\x00\x02\x00\x08"},
		{0, 0, "\x00\x00\x00\x00"},
		{255, 65535, "\x00\xff\xff\xff"},
		{256, 65536, "\x00\x00\x00\x00"},
		{0x1234, 0x12345678, "\x00\x34\x56\x78"},
		{-1, -1, "\x00\xff\xff\xff"},
		{-2, -257, "\x00\xfe\xfe\xff"},
		{-256, -65536, "\x00\x00\x00\x00"},
		{math.MaxInt, math.MaxInt, "\x00\xff\xff\xff"},
		{math.MinInt, math.MinInt, "\x00\x00\x00\x00"},
	} {
		if got := Pseudo(from, to, x.proto, x.size); got != both+x.want {
			t.Errorf("Pseudo with %d, %d = %x, not %x", x.proto, x.size, got, both+x.want)
		}
	}
	if got := Pseudo(api.Addr{}, api.Addr{}, 0, 0); got != strings.Repeat("\x00", 12) {
		t.Errorf("of nothing: %x", got)
	}
	// Without V6 only four bytes count, whatever is behind them.
	if got := Pseudo(address(false, 1), address(false, 101), 17, 3); got != "\x01\x02\x03\x04efgh\x00\x11\x00\x03" {
		t.Errorf("of addresses with bytes behind: %x", got)
	}
}

func TestPseudo6(t *testing.T) {
	const (
		one = "\x01\x02\x03\x04\x05\x06\x07\x08\x09\x0a\x0b\x0c\x0d\x0e\x0f\x10"
		two = "\xf0\xf1\xf2\xf3\xf4\xf5\xf6\xf7\xf8\xf9\xfa\xfb\xfc\xfd\xfe\xff"
	)
	for _, x := range []struct {
		proto, size int
		want        string
	}{
		{58, 24, "\x00\x00\x00\x18\x00\x00\x00\x3a"},
		{0, 0, "\x00\x00\x00\x00\x00\x00\x00\x00"},
		{255, 0x12345678, "\x12\x34\x56\x78\x00\x00\x00\xff"},
		{256, 65536, "\x00\x01\x00\x00\x00\x00\x00\x00"},
		{0x12345678, 1 << 32, "\x00\x00\x00\x00\x00\x00\x00\x78"},
		{-1, -1, "\xff\xff\xff\xff\x00\x00\x00\xff"},
		{-2, -257, "\xff\xff\xfe\xff\x00\x00\x00\xfe"},
		{math.MaxInt, math.MaxInt, "\xff\xff\xff\xff\x00\x00\x00\xff"},
		{math.MinInt, math.MinInt, "\x00\x00\x00\x00\x00\x00\x00\x00"},
	} {
		for _, v6 := range []struct{ from, to bool }{{true, true}, {true, false}, {false, true}} {
			got := Pseudo(address(v6.from, 1), address(v6.to, 0xf0), x.proto, x.size)
			if got != one+two+x.want {
				t.Errorf("Pseudo of %v with %d, %d = %x, not %x", v6, x.proto, x.size, got, one+two+x.want)
			}
		}
	}
}

// TestPseudoMixed has one address of each family: the one of IPv4 with all its bytes too.
func TestPseudoMixed(t *testing.T) {
	six := address(true, 0x20)
	const sixteen = "\x20\x21\x22\x23\x24\x25\x26\x27\x28\x29\x2a\x2b\x2c\x2d\x2e\x2f"
	four := "\x0a\x00\x00\x09" + strings.Repeat("\x00", 12)
	const rest = "\x00\x00\x01\x02\x00\x00\x00\x3a"
	if got := Pseudo(v4(10, 0, 0, 9), six, 58, 258); got != four+sixteen+rest {
		t.Errorf("from IPv4: %x", got)
	}
	if got := Pseudo(six, v4(10, 0, 0, 9), 58, 258); got != sixteen+four+rest {
		t.Errorf("to IPv4: %x", got)
	}
}

// TestPseudoSum checks a message of MLD as it stands in the world, with its pseudo header.
func TestPseudoSum(t *testing.T) {
	from := api.Addr{V6: true, B: [16]byte{0: 0xfe, 1: 0x80, 15: 1}}
	to := api.Addr{V6: true, B: [16]byte{0: 0xff, 1: 2, 15: 1}}
	body := "\x82\x00\x00\x00\x27\x10\x00\x00" + strings.Repeat("\x00", 16)
	// fe80 + 1 + ff02 + 1 + 24 + 58 + 8200 + 2710 is 2a6e6, which folds to a6e8.
	if got := Check(Pseudo(from, to, 58, 24), body); got != 65535-0xa6e8 {
		t.Errorf("check %#x", got)
	}
}

// TestGoodWithCheck lays the Check of words among them, at every place.
func TestGoodWithCheck(t *testing.T) {
	for _, s := range texts() {
		if len(s)%2 != 0 {
			continue
		}
		check := textOf(Check(s))
		for at := 0; at <= len(s); at += 2 {
			if !Good(s[:at] + check + s[at:]) {
				t.Errorf("%x with %x at %d isn't good", s, check, at)
			}
			if !Good(s[:at], check, s[at:]) {
				t.Errorf("%x with %x as a part at %d isn't good", s, check, at)
			}
		}
	}
}

// TestUpdateIsCheck replaces one word of a text by another.
func TestUpdateIsCheck(t *testing.T) {
	nexts := []int{0, 1, 255, 256, 0x8000, 0xfffe, 0xffff, 0x3f11, 0xa55a}
	for _, s := range texts() {
		words := wordsOf(s)
		check := Check(s)
		for i, old := range words {
			for _, next := range append(nexts, old, 65535-old) {
				changed := slices.Clone(words)
				changed[i] = next
				text := textOf(changed...)
				want := Check(text)
				if strings.Trim(text, "\x00") == "" {
					if want != 65535 {
						t.Errorf("Check(%x) = %d", text, want)
					}
					want = 0
				}
				if got := Update(check, old, next); got != want {
					t.Errorf("%x became %x: %#x, not %#x", s, text, got, want)
				}
			}
		}
	}
}
