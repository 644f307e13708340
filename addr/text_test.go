package addr

import (
	"fmt"
	"net/netip"
	"strings"
	"testing"

	"acequia/api"
)

// six is the address of IPv6 with these numbers.
func six(list ...int) api.Addr {
	a := api.Addr{V6: true}
	for i, n := range list {
		a.B[2*i], a.B[2*i+1] = byte(n>>8), byte(n)
	}
	return a
}

// known are addresses, and their texts written by hand.
func known() []struct {
	a    api.Addr
	text string
} {
	return []struct {
		a    api.Addr
		text string
	}{
		{Ip4(0, 0, 0, 0), "0.0.0.0"},
		{Ip4(1, 2, 3, 4), "1.2.3.4"},
		{Ip4(10, 0, 0, 9), "10.0.0.9"},
		{Ip4(99, 100, 109, 110), "99.100.109.110"},
		{Ip4(239, 129, 2, 3), "239.129.2.3"},
		{Ip4(255, 255, 255, 255), "255.255.255.255"},
		{six(0, 0, 0, 0, 0, 0, 0, 0), "::"},
		{six(0, 0, 0, 0, 0, 0, 0, 1), "::1"},
		{six(1, 0, 0, 0, 0, 0, 0, 0), "1::"},
		{six(0xff02, 0, 0, 0, 0, 0, 0, 1), "ff02::1"},
		{six(0, 0, 3, 4, 5, 6, 7, 8), "::3:4:5:6:7:8"},
		{six(1, 2, 3, 4, 5, 6, 0, 0), "1:2:3:4:5:6::"},
		{six(1, 2, 3, 0, 0, 6, 7, 8), "1:2:3::6:7:8"},
		{six(0, 2, 3, 4, 5, 6, 7, 8), "0:2:3:4:5:6:7:8"},
		{six(1, 2, 3, 4, 5, 6, 7, 0), "1:2:3:4:5:6:7:0"},
		{six(1, 2, 3, 0, 5, 6, 7, 8), "1:2:3:0:5:6:7:8"},
		{six(0, 2, 0, 4, 0, 6, 0, 8), "0:2:0:4:0:6:0:8"},
		{six(1, 0, 3, 0, 5, 0, 7, 0), "1:0:3:0:5:0:7:0"},
		{six(1, 2, 3, 4, 5, 6, 7, 8), "1:2:3:4:5:6:7:8"},
		{six(0, 0, 3, 0, 0, 6, 0, 0), "::3:0:0:6:0:0"},
		{six(1, 0, 0, 4, 0, 0, 7, 8), "1::4:0:0:7:8"},
		{six(1, 0, 0, 4, 5, 6, 0, 0), "1::4:5:6:0:0"},
		{six(0, 0, 3, 0, 0, 0, 7, 8), "0:0:3::7:8"},
		{six(0, 0, 3, 4, 5, 0, 0, 0), "0:0:3:4:5::"},
		{six(0, 0, 0, 4, 0, 0, 0, 0), "0:0:0:4::"},
		{six(0, 0, 0, 0, 5, 0, 0, 0), "::5:0:0:0"},
		{six(0, 0, 0, 4, 0, 0, 0, 8), "::4:0:0:0:8"},
		{six(0, 2, 3, 4, 5, 6, 0, 0), "0:2:3:4:5:6::"},
		{six(0, 0, 0, 0, 0, 0, 7, 0), "::7:0"},
		{six(0, 2, 0, 0, 0, 0, 0, 0), "0:2::"},
		{six(0x2001, 0xdb8, 0, 0, 0x10, 0xa0, 0xabcd, 0xef), "2001:db8::10:a0:abcd:ef"},
		{six(0xf, 0xf0, 0xf00, 0xf000, 0x1000, 0x100, 0x10, 1), "f:f0:f00:f000:1000:100:10:1"},
		{six(0xffff, 0xffff, 0xffff, 0xffff, 0xffff, 0xffff, 0xffff, 0xffff), "ffff:ffff:ffff:ffff:ffff:ffff:ffff:ffff"},
		{six(0, 0, 0, 0, 0, 0xffff, 0x102, 0x304), "::ffff:102:304"},
		{six(0, 0, 0, 0, 0, 0, 0x102, 0x304), "::102:304"},
	}
}

func TestPrintAndParse(t *testing.T) {
	for _, x := range known() {
		if got := Print(x.a); got != x.text {
			t.Errorf("Print(%v) = %q, not %q", x.a, got, x.text)
		}
		if got, err := Parse(x.text); got != x.a || err != api.OK {
			t.Errorf("Parse(%q) = %v, %d", x.text, got, err)
		}
	}
}

// textOf is what netip prints; but it writes some of IPv6 with points.
func textOf(a api.Addr) string {
	if !a.V6 {
		return netip.AddrFrom4([4]byte(a.B[:4])).String()
	}
	other := netip.AddrFrom16(a.B)
	if other.Is4In6() {
		return fmt.Sprintf("::ffff:%x:%x", int(a.B[12])<<8+int(a.B[13]), int(a.B[14])<<8+int(a.B[15]))
	}
	return other.String()
}

// TestZerosEverywhere has zeros at every set of places, and numbers of one to four digits at all others.
func TestZerosEverywhere(t *testing.T) {
	for _, n := range []int{1, 0xa, 0xff, 0x100, 0xfff, 0x1000, 0xabcd, 0xffff, 0xf00, 0x10} {
		for zeros := range 256 {
			list := make([]int, 8)
			for i := range list {
				if zeros>>i&1 == 0 {
					list[i] = n
				}
			}
			a := six(list...)
			want := textOf(a)
			if got := Print(a); got != want {
				t.Errorf("Print(%v) = %q, not %q", a, got, want)
			}
			if got, err := Parse(want); got != a || err != api.OK {
				t.Errorf("Parse(%q) = %v, %d", want, got, err)
			}
		}
	}
}

func TestParseOfPrint(t *testing.T) {
	for _, a := range append(any4(), any6()...) {
		text := Print(a)
		if text != textOf(a) {
			t.Errorf("Print(%v) = %q, not %q", a, text, textOf(a))
		}
		if got, err := Parse(text); got != a || err != api.OK {
			t.Errorf("Parse(%q) = %v, %d", text, got, err)
		}
	}
	for b := range 256 {
		a := Ip4(byte(b), byte(255-b), byte(b^85), byte(b))
		if got, err := Parse(Print(a)); got != a || err != api.OK || Print(a) != textOf(a) {
			t.Errorf("Parse(%q) = %v, %d", Print(a), got, err)
		}
	}
}

func TestParseWrong(t *testing.T) {
	for _, s := range []string{
		"", " ", "-", ".", ":", "...", ":::", "::::", "0", "1", "ff02", "1.2", "x", "\x00", "\x00\x00\x00\x00",
		strings.Repeat("\x00", 16), "a.b.c.d",
		// leading zeros
		"01.2.3.4", "1.02.3.4", "1.2.003.4", "1.2.3.00", "00.0.0.0", "0ff02::1", "ff02::01", "ff02::0001", "1:2:3:04:5:6:7:8", "00::1", "0001:2:3:4:5:6:7:8",
		// great letters
		"FF02::1", "ff02::A", "Ff02::1", "1:2:3:4:5:6:7:fFff",
		// numbers too large
		"256.0.0.1", "1.2.3.256", "1.999.3.4", "1.2.3.1000", "4294967296.1.1.1", "1.2.3.18446744073709551617", "10000::1", "::10000", "1:2:3:4:5:6:7:12345", "1:2:3:4:5:6:7:ffff0", "::1ffff",
		"::10000000000000001",
		// too few or too many
		"1.2.3", "1.2.3.4.5", "1.2.3.4.", ".1.2.3.4", "1.2.3.", "1.2.3.4.0", "1:2:3:4:5:6:7", "1:2:3:4:5:6:7:8:9", "1:2", "1:2:3:4:5:6:7:8:", ":1:2:3:4:5:6:7:8",
		"1:2:3:4:5:6:7::8", "::1:2:3:4:5:6:7:8", "1:2:3:4:5:6:7:8::", "1:2:3:4::5:6:7:8", "1.2.3.4.5.6.7.8.9.10.11.12.13.14.15.16", "0.0.0.0.0.0.0.0.0.0.0.0.0.0.0.0",
		// :: twice, for a single 0, for none, and with more of them beside it
		"1::2::3", "::1::", "::::1", "1::::2", "::1::2", "1::2:3:4:5:6:7", "::2:3:4:5:6:7:8", "1:2:3:4:5:6:7::", "1:2:3::5:6:7:8", "ff02::0:1", "ff02:0::1", "::0", "0::", "::0:0", "0:0::", "0::0", ":::1", "1:::", "1:::2",
		// :: for a run that is not the longest, or not the first
		"::3:0:0:0:7:8", "0:0:3:0:0:0:7:8", "0:0:3::0:7:8", "0:0:3::6:0:0", "::3:0:0:6::", "0:0:3:0:0:6::", "0:0:3::5:0:0:8", "1:0:0:4::7:8", "1:0:0:4:0:0:7:8", "0:0:0:0:0:0:0:0", "1:0:0:0:0:0:0:0", "0:0:0:0:0:0:0:1", "0:0:0:4:0:0:0:0", "::4:0:0:0:0", "0:0:0:0:5::",
		// empty parts
		"1..3.4", "1.2..4", "1.2.3..", "..1.2", "1:2:3:4:5:6:7:", ":2:3:4:5:6:7:8", ":1", "1:", ":1::", "::1:", "1::2:", ":1::2",
		// signs, spaces, other digits and other forms
		"+1.2.3.4", "-1.2.3.4", "1.2.3.-4", " 1.2.3.4", "1.2.3.4 ", "1.2.3.4\n", "1. 2.3.4", "1.2.3.4\x00", "0x1.2.3.4", "1e1.2.3.4", "1_0.2.3.4", "a.2.3.4", "1,2,3,4", "1.2.3:4", "1.2.3.4:5", "1:2.3.4", "1.2.3.4::",
		"::+1", "::-1", "-1::", " ::1", "::1 ", "::1\n", ":: 1", "::0x1", "::1_0", "::g", "g::", "::1%eth0", "[::1]", "::1/128", "1.2.3.4/32", "::1.2.3.4", "::ffff:1.2.3.4", "64:ff9b::1.2.3.4", "٠.0.0.0", "::é", "１.2.3.4",
	} {
		if got, err := Parse(s); got != (api.Addr{}) || err != api.ErrForm {
			t.Errorf("Parse(%q) = %v, %d", s, got, err)
		}
	}
}

func TestParseLong(t *testing.T) {
	for _, piece := range []string{"0", "f", ".", ":", "1.", "1:", "::", "\x00", "0:0", "255.255.255.255", "::1"} {
		for _, times := range []int{40, 1 << 20} {
			if got, err := Parse(strings.Repeat(piece, times)); got != (api.Addr{}) || err != api.ErrForm {
				t.Errorf("Parse of %d times %q = %v, %d", times, piece, got, err)
			}
			if got, err := ParseMac(strings.Repeat(piece, times)); got != (api.Mac{}) || err != api.ErrForm {
				t.Errorf("ParseMac of %d times %q = %x, %d", times, piece, got, err)
			}
		}
	}
}

// near are all texts that come from s by leaving out, by putting in or by replacing one character.
func near(s, letters string) []string {
	out := []string{s}
	for i := range len(s) + 1 {
		if i < len(s) {
			out = append(out, s[:i]+s[i+1:])
		}
		for _, c := range letters {
			out = append(out, s[:i]+string(c)+s[i:])
			if i < len(s) {
				out = append(out, s[:i]+string(c)+s[i+1:])
			}
		}
	}
	return out
}

// TestParseNear holds what Parse takes against netip, which reads more forms, but prints the same one.
func TestParseNear(t *testing.T) {
	taken := 0
	for _, x := range known() {
		for _, s := range near(x.text, "0129af.:AFg% ") {
			want, werr := api.Addr{}, api.ErrForm
			if other, err := netip.ParseAddr(s); err == nil && other.Zone() == "" {
				a := api.Addr{V6: true, B: other.As16()}
				if other.Is4() {
					four := other.As4()
					a = Ip4(four[0], four[1], four[2], four[3])
				}
				if textOf(a) == s {
					want, werr = a, api.OK
					taken++
				}
			}
			if got, err := Parse(s); got != want || err != werr {
				t.Errorf("Parse(%q) = %v, %d, not %v, %d", s, got, err, want, werr)
			}
		}
	}
	if taken < 1000 {
		t.Errorf("only %d texts were taken", taken)
	}
}

func TestMacTexts(t *testing.T) {
	for _, x := range []struct {
		m    api.Mac
		text string
	}{
		{api.Mac{}, "00:00:00:00:00:00"},
		{api.Mac{1, 0, 0x5e, 1, 2, 3}, "01:00:5e:01:02:03"},
		{api.Mac{0x33, 0x33, 0, 0, 0, 1}, "33:33:00:00:00:01"},
		{api.Mac{0xab, 0xcd, 0xef, 0xfe, 0xdc, 0xba}, "ab:cd:ef:fe:dc:ba"},
		{api.Mac{0x10, 0x0a, 0xa0, 9, 0x90, 0x0f}, "10:0a:a0:09:90:0f"},
		{api.Mac{255, 255, 255, 255, 255, 255}, "ff:ff:ff:ff:ff:ff"},
	} {
		if got := PrintMac(x.m); got != x.text {
			t.Errorf("PrintMac(%x) = %q", x.m, got)
		}
		if got, err := ParseMac(x.text); got != x.m || err != api.OK {
			t.Errorf("ParseMac(%q) = %x, %d", x.text, got, err)
		}
	}
	for at := range 6 {
		for b := range 256 {
			m := api.Mac{9, 8, 7, 6, 5, 4}
			m[at] = byte(b)
			want := fmt.Sprintf("%02x:%02x:%02x:%02x:%02x:%02x", m[0], m[1], m[2], m[3], m[4], m[5])
			if got := PrintMac(m); got != want {
				t.Errorf("PrintMac(%x) = %q", m, got)
			}
			if got, err := ParseMac(want); got != m || err != api.OK {
				t.Errorf("ParseMac(%q) = %x, %d", want, got, err)
			}
		}
	}
}

func TestParseMacWrong(t *testing.T) {
	for _, s := range []string{
		"", ":", ":::::", "0", "00", "00:00", "x", "01:00:5e:01:02", "01:00:5e:01:02:", ":01:00:5e:01:02", "01:00:5e:01:02:03:04", "01:00:5e:01:02:03:", ":01:00:5e:01:02:03",
		"01:00:5E:01:02:03", "AB:cd:ef:fe:dc:ba", "ab:cd:ef:fe:dc:bA", "1:00:5e:01:02:03", "01:0:5e:01:02:03", "01:00:5e:01:02:3", "001:00:5e:01:02:03", "01:00:5e:01:02:003", "001:0:5e:01:02:03",
		"01:00:5e:01:0g:03", "g1:00:5e:01:02:03", "01-00-5e-01-02-03", "01.00.5e.01.02.03", "01:00:5e:01:02-03", "01005e010203", "0100:5e01:0203", "01005e:010203", "01::5e:01:02:030", "01::00:5e:010203", "0:100:5e:01:02:03", ":0100:5e:01:02:03", "01:00:5e:01:0203:",
		"01 00 5e 01 02 03", " 01:00:5e:01:02:03", "01:00:5e:01:02:03 ", "01:00:5e:01:02:03\n", "01:00:5e:01:02: 3", "01:00:5e:01:02:+3", "01:00:5e:01:02:-3", "01:00:5e:01:0:03", "01:00:5e:01:02:0é",
		"01005e01020304:05", "01005e0102030405:", "01005e01020304056", "::::::01005e01020", ":::::01005e010203", "01005e010203:::::", ":::::::::::::::::", "0:1:0:0:5:e:0:1:02", "0x01:00:5e:01:02", "01\x0000:5e:01:02:03",
	} {
		if got, err := ParseMac(s); got != (api.Mac{}) || err != api.ErrForm {
			t.Errorf("ParseMac(%q) = %x, %d", s, got, err)
		}
	}
}

// TestParseMacNear works out which texts are taken by their places: a colon at every third, small digits at all others.
func TestParseMacNear(t *testing.T) {
	for _, text := range []string{"01:00:5e:01:02:03", "ab:cd:ef:fe:dc:ba", "00:00:00:00:00:00"} {
		for _, s := range near(text, "09afAFg:- ") {
			good := len(s) == 17
			for i := range len(s) {
				if i%3 == 2 {
					good = good && s[i] == ':'
				} else {
					good = good && strings.IndexByte("0123456789abcdef", s[i]) >= 0
				}
			}
			got, err := ParseMac(s)
			if good && (err != api.OK || PrintMac(got) != s) || !good && (err != api.ErrForm || got != (api.Mac{})) {
				t.Errorf("ParseMac(%q) = %x, %d", s, got, err)
			}
		}
	}
}

// TestExamples are those of the chapter.
func TestExamples(t *testing.T) {
	a, err := Parse("239.129.2.3")
	if m, ok := Mac(a); err != api.OK || !ok || PrintMac(m) != "01:00:5e:01:02:03" {
		t.Errorf("%v, %d, %x, %v", a, err, m, ok)
	}
	b, err := Read("\xff\x02" + strings.Repeat("\x00", 13) + "\x01")
	if err != api.OK || Print(b) != "ff02::1" {
		t.Errorf("%v, %d", b, err)
	}
}
