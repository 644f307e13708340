package addr

import (
	"slices"
	"strings"
	"testing"

	"acequia/api"
)

// v6 is the address of IPv6 that begins and ends with these bytes; zeros stand between them.
func v6(begin, end string) api.Addr {
	a := api.Addr{V6: true}
	copy(a.B[:], begin)
	copy(a.B[16-len(end):], end)
	return a
}

// bent is an address without V6 that has a byte behind its four.
func bent(at int, b byte) api.Addr {
	a := Ip4(224, 0, 0, 1)
	a.B[at] = b
	return a
}

// any4 are addresses of IPv4 at all borders that the chapter names, rising by their bytes.
func any4() []api.Addr {
	var out []api.Addr
	for _, a := range []byte{0, 1, 10, 127, 128, 223, 224, 225, 231, 232, 233, 238, 239, 240, 254, 255} {
		for _, b := range []byte{0, 1, 127, 128, 129, 191, 192, 195, 196, 254, 255} {
			for _, c := range []byte{0, 1, 128, 255} {
				for _, d := range []byte{0, 9, 255} {
					out = append(out, Ip4(a, b, c, d))
				}
			}
		}
	}
	return out
}

// any6 are addresses of IPv6 at all borders that the chapter names, rising by their bytes.
func any6() []api.Addr {
	var out []api.Addr
	for _, a := range []byte{0, 32, 127, 128, 224, 232, 239, 254, 255} {
		for _, b := range []byte{0, 1, 2, 3, 14, 15, 16, 18, 19, 47, 48, 50, 51, 63, 64, 128, 255} {
			for _, c := range []string{"\x00\x00", "\x00\x01", "\x01\x00", "\xff\xff"} {
				for _, end := range []string{"\x00", "\x01", "\xff\xfe\xfd\xfc", "\xff\xff\xff\xfe\xfd\xfc"} {
					out = append(out, v6(string([]byte{a, b})+c, end))
				}
			}
		}
	}
	return out
}

func TestIp4(t *testing.T) {
	want := api.Addr{B: [16]byte{239, 129, 2, 3}}
	if got := Ip4(239, 129, 2, 3); got != want {
		t.Errorf("%v", got)
	}
	if got := Ip4(0, 0, 0, 0); got != (api.Addr{}) {
		t.Errorf("%v", got)
	}
	if got := Ip4(255, 254, 253, 252); got != (api.Addr{B: [16]byte{255, 254, 253, 252}}) {
		t.Errorf("%v", got)
	}
}

func TestGood(t *testing.T) {
	for _, a := range append(any4(), any6()...) {
		if !Good(a) {
			t.Errorf("%v isn't good", a)
		}
	}
	for at := range 16 {
		for _, b := range []byte{1, 128, 255} {
			if got := Good(bent(at, b)); got != (at < 4) {
				t.Errorf("with %d at %d: %v", b, at, got)
			}
			a := bent(at, b)
			a.V6 = true
			if !Good(a) {
				t.Errorf("with V6 and %d at %d it isn't good", b, at)
			}
		}
	}
	if !Good(api.Addr{}) || !Good(api.Addr{V6: true}) {
		t.Error("zeros aren't good")
	}
}

func TestBytes(t *testing.T) {
	if got := Bytes(Ip4(1, 2, 3, 255)); got != "\x01\x02\x03\xff" {
		t.Errorf("%x", got)
	}
	if got := Bytes(api.Addr{}); got != "\x00\x00\x00\x00" {
		t.Errorf("%x", got)
	}
	if got := Bytes(v6("\xff\x02\x03\x04\x05", "\x0e\x0f\x10")); got != "\xff\x02\x03\x04\x05\x00\x00\x00\x00\x00\x00\x00\x00\x0e\x0f\x10" {
		t.Errorf("%x", got)
	}
	if got := Bytes(api.Addr{V6: true}); got != strings.Repeat("\x00", 16) {
		t.Errorf("%x", got)
	}
}

func TestRead(t *testing.T) {
	const all = "\x01\x02\x03\x04\x05\x06\x07\x08\x09\x0a\x0b\x0c\x0d\x0e\x0f\x10\x11\x12\x13\x14\x15\x16\x17\x18\x19\x1a\x1b\x1c\x1d\x1e\x1f\x20\x21\x22"
	for size := range len(all) + 1 {
		want, werr := api.Addr{}, api.ErrForm
		switch size {
		case 4:
			want, werr = api.Addr{B: [16]byte{1, 2, 3, 4}}, api.OK
		case 16:
			want, werr = api.Addr{V6: true, B: [16]byte{1, 2, 3, 4, 5, 6, 7, 8, 9, 10, 11, 12, 13, 14, 15, 16}}, api.OK
		}
		if got, err := Read(all[:size]); got != want || err != werr {
			t.Errorf("Read of %d bytes = %v, %d", size, got, err)
		}
	}
	for _, s := range []string{strings.Repeat("\x00", 1<<16), "10.0.0.1", "::1", "\x00"} {
		if got, err := Read(s); got != (api.Addr{}) || err != api.ErrForm {
			t.Errorf("Read of %d bytes = %v, %d", len(s), got, err)
		}
	}
	if got, err := Read("\x00\x00\x00\x00"); got != (api.Addr{}) || err != api.OK {
		t.Errorf("Read of four zeros = %v, %d", got, err)
	}
	if got, err := Read(strings.Repeat("\x00", 16)); got != (api.Addr{V6: true}) || err != api.OK {
		t.Errorf("Read of sixteen zeros = %v, %d", got, err)
	}
}

func TestReadOfBytes(t *testing.T) {
	for _, a := range append(any4(), any6()...) {
		if got, err := Read(Bytes(a)); got != a || err != api.OK {
			t.Errorf("Read of Bytes of %v = %v, %d", a, got, err)
		}
	}
}

// TestZero has addresses that are not good as well.
func TestZero(t *testing.T) {
	if !Zero(api.Addr{}) || !Zero(api.Addr{V6: true}) {
		t.Error("zeros aren't zero")
	}
	for _, v6 := range []bool{false, true} {
		for at := range 16 {
			for _, b := range []byte{1, 128, 255} {
				a := api.Addr{V6: v6}
				a.B[at] = b
				if Zero(a) {
					t.Errorf("%v is zero", a)
				}
			}
		}
	}
}

// TestCmp uses that both lists rise, and that those of IPv6 follow those of IPv4, even where their bytes are lower.
func TestCmp(t *testing.T) {
	all := append(any4(), any6()...)
	for i, a := range all {
		for j, b := range all {
			want := 0
			if i < j {
				want = -1
			} else if i > j {
				want = 1
			}
			if got := Cmp(a, b); got != want {
				t.Fatalf("Cmp(%v, %v) = %d", a, b, got)
			}
		}
	}
	if Cmp(Ip4(255, 255, 255, 255), api.Addr{V6: true}) != -1 || Cmp(api.Addr{V6: true}, Ip4(255, 255, 255, 255)) != 1 {
		t.Error("families by their bytes")
	}
	if Cmp(api.Addr{}, api.Addr{V6: true}) != -1 || Cmp(api.Addr{V6: true}, api.Addr{}) != 1 {
		t.Error("zeros of both families")
	}
}

// TestCmpOneByte has pairs that differ in one byte alone, and such where the later bytes tell the opposite.
func TestCmpOneByte(t *testing.T) {
	for _, v6 := range []bool{false, true} {
		wide := 4
		if v6 {
			wide = 16
		}
		for at := range wide {
			for _, x := range [][2]byte{{0, 1}, {0, 255}, {127, 128}, {254, 255}, {9, 10}} {
				low, high := api.Addr{V6: v6}, api.Addr{V6: v6}
				low.B[at], high.B[at] = x[0], x[1]
				for i := at; i < wide; i++ {
					if got, back, same := Cmp(low, high), Cmp(high, low), Cmp(low, low); got != -1 || back != 1 || same != 0 {
						t.Errorf("Cmp(%v, %v) = %d, %d, %d", low, high, got, back, same)
					}
					if i+1 < wide {
						low.B[i+1] = 255
					}
				}
			}
		}
	}
}

func TestGroup(t *testing.T) {
	for first := range 256 {
		for _, second := range []byte{0, 1, 2, 255} {
			b := byte(first)
			if got := Group(Ip4(b, second, 0, 1)); got != (first >= 224 && first <= 239) {
				t.Errorf("%d.%d.0.1: %v", first, second, got)
			}
			if got := Group(v6(string([]byte{b, second}), "\x01")); got != (first == 255) {
				t.Errorf("with V6 %d, %d: %v", first, second, got)
			}
		}
	}
}

func TestLocal4(t *testing.T) {
	for _, x := range []struct {
		a    api.Addr
		want bool
	}{
		{Ip4(224, 0, 0, 0), true},
		{Ip4(224, 0, 0, 1), true},
		{Ip4(224, 0, 0, 22), true},
		{Ip4(224, 0, 0, 255), true},
		{Ip4(224, 0, 1, 0), false},
		{Ip4(224, 0, 1, 1), false},
		{Ip4(224, 0, 255, 0), false},
		{Ip4(224, 1, 0, 0), false},
		{Ip4(224, 128, 0, 1), false},
		{Ip4(225, 0, 0, 0), false},
		{Ip4(225, 0, 0, 1), false},
		{Ip4(223, 0, 0, 1), false},
		{Ip4(239, 0, 0, 1), false},
		{Ip4(240, 0, 0, 1), false},
		{Ip4(0, 0, 0, 0), false},
		{Ip4(255, 2, 0, 1), false},
		{Ip4(255, 0, 0, 0), false},
	} {
		if got := Local(x.a); got != x.want {
			t.Errorf("Local(%s) = %v", Print(x.a), got)
		}
	}
}

// TestScope6 goes through all second bytes: the scope is in the lower half, whatever flags are in the higher one.
func TestScope6(t *testing.T) {
	for _, first := range []byte{0, 32, 224, 239, 254, 255} {
		for second := range 256 {
			for _, end := range []string{"\x00", "\x01", "\xff\xff\xff\xff\xff\xff\xff\xff\xff\xff\xff\xff\xff\xff"} {
				a := v6(string([]byte{first, byte(second)}), end)
				scope, local := 0, false
				if first == 255 {
					scope = second % 16
					local = scope <= 2
				}
				if got := Scope(a); got != scope {
					t.Errorf("Scope(%s) = %d, not %d", Print(a), got, scope)
				}
				if got := Local(a); got != local {
					t.Errorf("Local(%s) = %v", Print(a), got)
				}
			}
		}
	}
	// The bytes of a local group of IPv4 are none with V6.
	if a := v6("\xe0\x00\x00\x01", ""); Local(a) || Scope(a) != 0 {
		t.Errorf("%s: %v, %d", Print(a), Local(a), Scope(a))
	}
}

func TestScope4(t *testing.T) {
	for _, x := range []struct {
		a    api.Addr
		want int
	}{
		{Ip4(0, 0, 0, 0), 0},
		{Ip4(10, 0, 0, 1), 0},
		{Ip4(223, 255, 255, 255), 0},
		{Ip4(240, 0, 0, 0), 0},
		{Ip4(255, 2, 0, 0), 0},
		{Ip4(255, 255, 255, 255), 0},
		{Ip4(224, 0, 0, 0), 2},
		{Ip4(224, 0, 0, 255), 2},
		{Ip4(224, 0, 1, 0), 14},
		{Ip4(224, 1, 0, 0), 14},
		{Ip4(224, 255, 0, 0), 14},
		{Ip4(224, 192, 0, 0), 14},
		{Ip4(232, 0, 0, 1), 14},
		{Ip4(238, 255, 0, 1), 14},
		{Ip4(238, 192, 0, 1), 14},
		{Ip4(239, 0, 0, 0), 14},
		{Ip4(239, 0, 0, 1), 14},
		{Ip4(239, 191, 255, 255), 14},
		{Ip4(239, 192, 0, 0), 8},
		{Ip4(239, 193, 1, 1), 8},
		{Ip4(239, 194, 0, 0), 8},
		{Ip4(239, 195, 255, 255), 8},
		{Ip4(239, 196, 0, 0), 14},
		{Ip4(239, 254, 255, 255), 14},
		{Ip4(239, 255, 0, 0), 3},
		{Ip4(239, 255, 255, 255), 3},
	} {
		if got := Scope(x.a); got != x.want {
			t.Errorf("Scope(%s) = %d, not %d", Print(x.a), got, x.want)
		}
	}
}

// TestScope4All works out the scope by the first two bytes, and by the third where these are 224 and 0.
func TestScope4All(t *testing.T) {
	for first := range 256 {
		for second := range 256 {
			for _, third := range []byte{0, 1, 255} {
				want := 14
				if first < 224 || first > 239 {
					want = 0
				} else if first == 224 && second == 0 && third == 0 {
					want = 2
				} else if first == 239 && second == 255 {
					want = 3
				} else if first == 239 && second/4 == 48 {
					want = 8
				}
				a := Ip4(byte(first), byte(second), third, 7)
				if got := Scope(a); got != want {
					t.Fatalf("Scope(%s) = %d, not %d", Print(a), got, want)
				}
				if got := Local(a); got != (want == 2) {
					t.Fatalf("Local(%s) = %v", Print(a), got)
				}
			}
		}
	}
}

func TestSsm4(t *testing.T) {
	for first := range 256 {
		for _, rest := range [][3]byte{{0, 0, 0}, {48, 0, 0}, {255, 255, 255}, {0, 0, 1}} {
			if got := Ssm(Ip4(byte(first), rest[0], rest[1], rest[2])); got != (first == 232) {
				t.Errorf("%d, %v: %v", first, rest, got)
			}
		}
	}
}

func TestSsm6(t *testing.T) {
	for first := range 256 {
		for second := range 256 {
			for _, third := range []byte{0, 1, 128} {
				for _, fourth := range []byte{0, 1, 128} {
					a := v6(string([]byte{byte(first), byte(second), third, fourth}), "\xff\x00\xff")
					want := first == 255 && second >= 48 && second <= 63 && third == 0 && fourth == 0
					if got := Ssm(a); got != want {
						t.Fatalf("Ssm(%s) = %v", Print(a), got)
					}
				}
			}
		}
	}
	// What follows the fourth byte does not matter.
	if !Ssm(v6("\xff\x3e", "")) || !Ssm(v6("\xff\x3e", strings.Repeat("\xff", 12))) {
		t.Error("by its later bytes")
	}
}

func TestMac(t *testing.T) {
	for _, x := range []struct {
		a    api.Addr
		want api.Mac
	}{
		{Ip4(239, 129, 2, 3), api.Mac{1, 0, 0x5e, 1, 2, 3}},
		{Ip4(239, 1, 2, 3), api.Mac{1, 0, 0x5e, 1, 2, 3}},
		{Ip4(224, 0, 0, 0), api.Mac{1, 0, 0x5e, 0, 0, 0}},
		{Ip4(224, 127, 128, 129), api.Mac{1, 0, 0x5e, 127, 128, 129}},
		{Ip4(224, 128, 0, 1), api.Mac{1, 0, 0x5e, 0, 0, 1}},
		{Ip4(239, 255, 255, 255), api.Mac{1, 0, 0x5e, 127, 255, 255}},
		{v6("\xff\x02", "\x01"), api.Mac{0x33, 0x33, 0, 0, 0, 1}},
		{v6("\xff\x02", "\x01\xff\x84\x85\x86"), api.Mac{0x33, 0x33, 0xff, 0x84, 0x85, 0x86}},
		{v6("\xff\xff", "\xee\xff\xfe\xfd\xfc"), api.Mac{0x33, 0x33, 0xff, 0xfe, 0xfd, 0xfc}},
		{v6("\xff", ""), api.Mac{0x33, 0x33, 0, 0, 0, 0}},
	} {
		if got, ok := Mac(x.a); got != x.want || !ok {
			t.Errorf("Mac(%s) = %x, %v, not %x", Print(x.a), got, ok, x.want)
		}
	}
}

// TestMacAll holds Mac against Group, and its addresses against Many.
func TestMacAll(t *testing.T) {
	for _, a := range append(any4(), any6()...) {
		want := api.Mac{}
		if Group(a) && a.V6 {
			want = api.Mac{0x33, 0x33, a.B[12], a.B[13], a.B[14], a.B[15]}
		} else if Group(a) {
			want = api.Mac{1, 0, 0x5e, a.B[1] % 128, a.B[2], a.B[3]}
		}
		got, ok := Mac(a)
		if got != want || ok != Group(a) || Many(got) != ok {
			t.Errorf("Mac(%s) = %x, %v, not %x", Print(a), got, ok, want)
		}
	}
}

func TestMacOfOthers(t *testing.T) {
	for _, a := range []api.Addr{{}, {V6: true}, Ip4(223, 255, 255, 255), Ip4(240, 0, 0, 1), Ip4(10, 0, 0, 1), Ip4(255, 255, 255, 255), v6("\xfe\x80", "\x01"), v6("\xe0\x00\x00\x01", "\x01"), v6("\x00\xff", "\x01")} {
		if got, ok := Mac(a); got != (api.Mac{}) || ok {
			t.Errorf("Mac(%s) = %x, %v", Print(a), got, ok)
		}
	}
}

func TestMany(t *testing.T) {
	for first := range 256 {
		for _, rest := range [][5]byte{{}, {1, 1, 1, 1, 1}, {254, 254, 254, 254, 254}, {255, 255, 255, 255, 255}} {
			m := api.Mac{byte(first), rest[0], rest[1], rest[2], rest[3], rest[4]}
			if got := Many(m); got != (first%2 == 1) {
				t.Errorf("Many(%x) = %v", m, got)
			}
		}
	}
}

// TestBent gives all functions addresses that are not good: nothing is promised but that they return.
func TestBent(t *testing.T) {
	for at := 4; at < 16; at++ {
		a := bent(at, 200)
		for _, b := range []api.Addr{a, {}, {V6: true}} {
			Cmp(a, b)
			Cmp(b, a)
		}
		Bytes(a)
		Group(a)
		Local(a)
		Ssm(a)
		Scope(a)
		Mac(a)
		Print(a)
	}
}

// TestSorted sorts by Cmp what was put in disorder.
func TestSorted(t *testing.T) {
	all := append(any4(), any6()...)
	mixed := slices.Clone(all)
	for i := range mixed {
		j := i * 7919 % len(mixed)
		mixed[i], mixed[j] = mixed[j], mixed[i]
	}
	slices.SortFunc(mixed, Cmp)
	if !slices.Equal(mixed, all) {
		t.Error("in another order")
	}
}
