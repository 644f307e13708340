package ip4

import (
	"strings"
	"testing"

	"acequia/addr"
	"acequia/api"
)

// hopped is s, of the packet p, one hop on: the Ttl is less by one, and the checksum more by the word that this takes away.
func hopped(s string, p api.Ip4) string {
	sum := int(s[10])*256 + int(s[11]) + 256
	// Of the two forms of zero an update tells 0.
	if sum >= 65535 {
		sum -= 65535
	}
	return s[:8] + string([]byte{byte(p.Ttl - 1)}) + s[9:10] + number(sum) + s[12:]
}

// checkHop checks the Hop of s, which is the packet p.
func checkHop(t *testing.T, s string, p api.Ip4) {
	t.Helper()
	got, err := Hop(s)
	if p.Ttl == 0 {
		if got != "" || err != api.ErrNone {
			t.Errorf("hop of %x: %x, %v", start(s), start(got), err)
		}
		return
	}
	if want := hopped(s, p); got != want || err != api.OK {
		t.Errorf("hop of %x: %x, %v, not %x", start(s), start(got), err, start(want))
	}
	p.Ttl--
	if back, err := Read(got); back != p || err != api.OK {
		t.Errorf("behind the hop of %x: %+v, %v", start(s), brief(back), err)
	}
}

// TestHop is for P5.4 and P5.5: packets with and without options, whatever follows them.
func TestHop(t *testing.T) {
	for _, x := range samples() {
		if !x.good {
			continue
		}
		s, _ := Write(x.p)
		for _, behind := range []string{"", "\x00", "behind", s, strings.Repeat("\xff", 70000)} {
			checkHop(t, s+behind, x.p)
		}
	}
}

// TestHopKnown is for P5.4: hops whose bytes are written out here.
func TestHopKnown(t *testing.T) {
	for _, x := range []struct {
		name, s, want string
		code          api.Errno
	}{
		{"Ttl 64", "\x45\x00\x00\x14\x00\x00\x00\x00\x40\x11\x7a\xda\x00\x00\x00\x00\x00\x00\x00\x00", "\x45\x00\x00\x14\x00\x00\x00\x00\x3f\x11\x7b\xda\x00\x00\x00\x00\x00\x00\x00\x00", api.OK},
		{"Ttl 255", "\x45\x00\x00\x14\x00\x00\x00\x00\xff\x00\xbb\xea\x00\x00\x00\x00\x00\x00\x00\x00", "\x45\x00\x00\x14\x00\x00\x00\x00\xfe\x00\xbc\xea\x00\x00\x00\x00\x00\x00\x00\x00", api.OK},
		{"Ttl 1", "\x45\x00\x00\x14\x00\x00\x00\x00\x01\x00\xb9\xeb\x00\x00\x00\x00\x00\x00\x00\x00", "\x45\x00\x00\x14\x00\x00\x00\x00\x00\x00\xba\xeb\x00\x00\x00\x00\x00\x00\x00\x00", api.OK},
		{"Ttl 0", "\x45\x00\x00\x14\x00\x00\x00\x00\x00\x00\xba\xeb\x00\x00\x00\x00\x00\x00\x00\x00", "", api.ErrNone},
		{"Ttl 1, an alert, and bytes behind", "\x46\xc0\x00\x19\xab\xcd\x00\x00\x01\x02\x8e\x32\x0a\x00\x00\x09\xe0\x00\x00\x16\x94\x04\x00\x00xyz", "\x46\xc0\x00\x19\xab\xcd\x00\x00\x00\x02\x8f\x32\x0a\x00\x00\x09\xe0\x00\x00\x16\x94\x04\x00\x00xyz", api.OK},
		{"Ttl 0, an alert, and bytes behind", "\x46\xc0\x00\x19\xab\xcd\x00\x00\x00\x02\x8f\x32\x0a\x00\x00\x09\xe0\x00\x00\x16\x94\x04\x00\x00xyz", "", api.ErrNone},
		{"a carry", "\x45\x00\x00\x14\x00\x00\x00\x00\x40\x11\xff\x37\x00\x00\x00\x00\x00\x00\x7b\xa2", "\x45\x00\x00\x14\x00\x00\x00\x00\x3f\x11\x00\x38\x00\x00\x00\x00\x00\x00\x7b\xa2", api.OK},
		{"bits of byte 6", "\x45\x00\x00\x14\x00\x00\xc0\x00\x40\x11\xba\xd9\x00\x00\x00\x00\x00\x00\x00\x00", "\x45\x00\x00\x14\x00\x00\xc0\x00\x3f\x11\xbb\xd9\x00\x00\x00\x00\x00\x00\x00\x00", api.OK},
	} {
		if got, err := Hop(x.s); got != x.want || err != x.code {
			t.Errorf("%s: %x, %v", x.name, got, err)
		}
	}
}

// TestHopKeepsAll is for P5.4: what a packet does not tell is kept in its bytes.
func TestHopKeepsAll(t *testing.T) {
	for _, options := range []string{"\x00\x07\x00\xff", "\x01\x01\x01\x01", "\x07\x04ab", "\x94\x04\x00\x07", "\x07\x08ab\x94\x04\x00\x00", strings.Repeat("\x01", 36) + "\x94\x04\x00\x00"} {
		for _, high := range []string{"\x00", "\x40", "\x80", "\xc0"} {
			s := sealed(patched(packet(options, "body!"), 6, high)) + "behind"
			p, err := Read(s)
			if err != api.OK {
				t.Errorf("%x: %v", s, err)
			}
			checkHop(t, s, p)
		}
	}
}

// TestHopToTheEnd is for P5.4 and P5.5: hop after hop, from every checksum, till the Ttl is 0.
func TestHopToTheEnd(t *testing.T) {
	for id := 0; id < 65536; id += 251 {
		p := api.Ip4{Id: id, Ttl: 255, Proto: id % 256, From: addr.Ip4(10, 0, 0, 9), To: addr.Ip4(239, 1, 1, 1), Alert: id%2 == 1, Body: "x"}
		s, _ := Write(p)
		for p.Ttl > 0 {
			checkHop(t, s, p)
			s, _ = Hop(s)
			p.Ttl--
		}
		checkHop(t, s, p)
	}
}

// TestHopOfEitherZero is for P5.4 and P5.5: checksums at both borders, and either form of zero.
func TestHopOfEitherZero(t *testing.T) {
	seen := map[int]bool{}
	for id := range 65536 {
		p := plain()
		p.Id = id
		s, _ := Write(p)
		n := int(s[10])*256 + int(s[11])
		seen[n] = true
		checkHop(t, s, p)
		if n == 0 {
			checkHop(t, patched(s, 10, "\xff\xff"), p)
		}
	}
	for _, n := range []int{0, 1, 255, 256, 65278, 65279, 65280, 65534} {
		if !seen[n] {
			t.Errorf("no packet has the checksum %d", n)
		}
	}
}
