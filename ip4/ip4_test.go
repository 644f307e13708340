package ip4

import (
	"math"
	"strings"
	"testing"

	"acequia/addr"
	"acequia/api"
)

// plain is a good packet without an alert.
func plain() api.Ip4 {
	return api.Ip4{Tos: 0xc1, Id: 0x1234, Ttl: 64, Proto: 17, From: addr.Ip4(10, 1, 2, 200), To: addr.Ip4(239, 129, 2, 3), Body: "body!"}
}

// alerted is a good packet with an alert.
func alerted() api.Ip4 {
	p := plain()
	p.Alert, p.Ttl, p.Proto = true, 1, 2
	return p
}

// bodied is p with a body of that many bytes.
func bodied(p api.Ip4, size int) api.Ip4 {
	p.Body = body(size)
	return p
}

// body is a body of that many bytes, no two neighbours of which are the same.
func body(size int) string {
	out := make([]byte, size)
	for i := range out {
		out[i] = byte(i*7 + i/256)
	}
	return string(out)
}

// number is the two bytes of n.
func number(n int) string {
	return string([]byte{byte(n / 256), byte(n)})
}

// check is the checksum of a header whose own checksum is left out: all of its words are taken from 65535, one by one.
func check(s string) int {
	left := 65535
	for i := 0; i < len(s); i += 2 {
		if left -= int(s[i])*256 + int(s[i+1]); left < 0 {
			left += 65535
		}
	}
	return left
}

// patched is s with the bytes from at on replaced by next.
func patched(s string, at int, next string) string {
	return s[:at] + next + s[at+len(next):]
}

// sealed is s with the checksum that its header asks for, whatever else is wrong with it; the least header has 20 bytes.
func sealed(s string) string {
	size := max(int(s[0]%16)*4, 20)
	return patched(s, 10, number(check(s[:10]+s[12:size])))
}

// packet is the bytes of a packet with these options, and a header of that many bytes.
func packet(options, body string) string {
	head := 20 + len(options)
	return sealed(string([]byte{byte(0x40 + head/4), 0xc1}) + number(head+len(body)) + "\x12\x34\x00\x00\x40\x11\x00\x00\x0a\x01\x02\xc8\xef\x81\x02\x03" + options + body)
}

// brief is p without most of its body, for what a test tells.
func brief(p api.Ip4) api.Ip4 {
	p.Body = p.Body[:min(len(p.Body), 8)]
	return p
}

// start is the beginning of s, for what a test tells.
func start(s string) string {
	return s[:min(len(s), 64)]
}

// sample is a packet, and whether it is good.
type sample struct {
	name string
	p    api.Ip4
	good bool
}

// numberSamples are packets with all numbers at the borders that the chapter names, one field after the other.
func numberSamples() []sample {
	var out []sample
	for _, n := range []int{math.MinInt, -1 << 32, -65536, -256, -255, -1, 0, 1, 127, 128, 254, 255, 256, 257, 511, 32767, 32768, 65534, 65535, 65536, 65537, 1 << 32, math.MaxInt} {
		for _, p := range []api.Ip4{plain(), alerted()} {
			tos, id, ttl, proto := p, p, p, p
			tos.Tos, id.Id, ttl.Ttl, proto.Proto = n, n, n, n
			small := n >= 0 && n <= 255
			out = append(out, sample{"tos", tos, small}, sample{"id", id, n >= 0 && n <= 65535}, sample{"ttl", ttl, small}, sample{"proto", proto, small})
		}
	}
	return out
}

// addrSamples are packets with addresses of all kinds, good and not.
func addrSamples() []sample {
	var out []sample
	add := func(name string, a api.Addr, good bool) {
		from, to, both := plain(), alerted(), plain()
		from.From, to.To, both.From, both.To = a, a, a, a
		out = append(out, sample{name, from, good}, sample{name, to, good}, sample{name, both, good})
	}
	add("zero", api.Addr{}, true)
	add("all bits", addr.Ip4(255, 255, 255, 255), true)
	add("a group", addr.Ip4(224, 0, 0, 1), true)
	add("the zero of IPv6", api.Addr{V6: true}, false)
	add("of IPv6", api.Addr{V6: true, B: [16]byte{0xff, 2, 15: 1}}, false)
	add("four bytes of IPv6", api.Addr{V6: true, B: [16]byte{10, 1, 2, 3}}, false)
	for i := 4; i < 16; i++ {
		for _, b := range []byte{1, 128, 255} {
			a := addr.Ip4(10, 1, 2, 3)
			a.B[i] = b
			add("a byte behind", a, false)
		}
	}
	return out
}

// samples are packets of all kinds, good and not.
func samples() []sample {
	out := []sample{{"plain", plain(), true}, {"alerted", alerted(), true}, {"zero", api.Ip4{}, true}, {"zero with an alert", api.Ip4{Alert: true}, true}}
	for _, size := range []int{0, 1, 2, 3, 4, 20, 255, 256, 1376, 1380, 1396, 1399, 1400, 1401, 1402, 1404, 1500, 65536} {
		out = append(out, sample{"body", bodied(plain(), size), size <= 1400}, sample{"body, alerted", bodied(alerted(), size), size <= 1400})
	}
	highest := api.Ip4{Tos: 255, Id: 65535, Ttl: 255, Proto: 255, From: addr.Ip4(255, 255, 255, 255), To: addr.Ip4(255, 255, 255, 255), Alert: true, Body: body(1400)}
	out = append(out, sample{"highest", highest, true})
	out = append(out, numberSamples()...)
	return append(out, addrSamples()...)
}

// bytesOf is the bytes of p as the chapter lists them.
func bytesOf(p api.Ip4) string {
	first, options := "\x45", ""
	if p.Alert {
		first, options = "\x46", "\x94\x04\x00\x00"
	}
	size := 20 + len(options) + len(p.Body)
	ahead := first + string([]byte{byte(p.Tos)}) + number(size) + number(p.Id) + "\x00\x00" + string([]byte{byte(p.Ttl), byte(p.Proto)})
	behind := string(p.From.B[:4]) + string(p.To.B[:4]) + options
	return ahead + number(check(ahead+behind)) + behind + p.Body
}

// TestGood is for P5.1.
func TestGood(t *testing.T) {
	for _, x := range samples() {
		if got := Good(x.p); got != x.good {
			t.Errorf("%s: Good(%+v) = %v", x.name, brief(x.p), got)
		}
	}
}

// TestGoodOfAllNumbers is for P5.1: each number by itself, far over both borders.
func TestGoodOfAllNumbers(t *testing.T) {
	for n := -70000; n <= 140000; n++ {
		tos, id, ttl, proto := plain(), plain(), plain(), plain()
		tos.Tos, id.Id, ttl.Ttl, proto.Proto = n, n, n, n
		small := n >= 0 && n <= 255
		if Good(tos) != small || Good(ttl) != small || Good(proto) != small || Good(id) != (n >= 0 && n <= 65535) {
			t.Fatalf("%d: %v, %v, %v, %v", n, Good(tos), Good(ttl), Good(proto), Good(id))
		}
	}
}

// TestSize is for P5.1; of a packet that is not good the size is told as well.
func TestSize(t *testing.T) {
	for _, x := range samples() {
		want := 20 + len(x.p.Body)
		if x.p.Alert {
			want = 24 + len(x.p.Body)
		}
		if got := Size(x.p); got != want {
			t.Errorf("%s: Size(%+v) = %d, not %d", x.name, brief(x.p), got, want)
		}
	}
	for size := range 1402 {
		if a, b := Size(bodied(plain(), size)), Size(bodied(alerted(), size)); a != 20+size || b != 24+size {
			t.Errorf("%d: %d, %d", size, a, b)
		}
	}
}

// TestWrite is for P5.2.
func TestWrite(t *testing.T) {
	for _, x := range samples() {
		want, code := "", api.ErrForm
		if x.good {
			want, code = bytesOf(x.p), api.OK
		}
		if got, err := Write(x.p); got != want || err != code {
			t.Errorf("%s: Write(%+v) = %x, %v, not %x, %v", x.name, brief(x.p), start(got), err, start(want), code)
		}
	}
}

// TestWriteKnown is for P5.2: packets whose bytes are written out here.
func TestWriteKnown(t *testing.T) {
	for _, x := range []struct {
		p    api.Ip4
		want string
	}{
		{api.Ip4{}, "\x45\x00\x00\x14\x00\x00\x00\x00\x00\x00\xba\xeb\x00\x00\x00\x00\x00\x00\x00\x00"},
		{api.Ip4{Alert: true}, "\x46\x00\x00\x18\x00\x00\x00\x00\x00\x00\x25\xe3\x00\x00\x00\x00\x00\x00\x00\x00\x94\x04\x00\x00"},
		{api.Ip4{Ttl: 64, Proto: 17, From: addr.Ip4(192, 168, 0, 1), To: addr.Ip4(192, 168, 0, 199), Body: strings.Repeat("d", 95)},
			"\x45\x00\x00\x73\x00\x00\x00\x00\x40\x11\xf8\x61\xc0\xa8\x00\x01\xc0\xa8\x00\xc7" + strings.Repeat("d", 95)},
		{api.Ip4{Tos: 0xc0, Id: 0xabcd, Ttl: 1, Proto: 2, From: addr.Ip4(10, 0, 0, 9), To: addr.Ip4(224, 0, 0, 22), Alert: true, Body: "x"},
			"\x46\xc0\x00\x19\xab\xcd\x00\x00\x01\x02\x8e\x32\x0a\x00\x00\x09\xe0\x00\x00\x16\x94\x04\x00\x00x"},
	} {
		if got, err := Write(x.p); got != x.want || err != api.OK {
			t.Errorf("%+v: %x, %v", brief(x.p), start(got), err)
		}
		if back, err := Read(x.want); back != x.p || err != api.OK {
			t.Errorf("%x: %+v, %v", start(x.want), brief(back), err)
		}
	}
}

// TestWriteOfAllNumbers is for P5.2 and P5.5: each good number by itself, and checksums of all kinds with them.
func TestWriteOfAllNumbers(t *testing.T) {
	for n := range 65536 {
		p := plain()
		p.Id, p.Tos, p.Ttl, p.Proto, p.Alert = n, n/256, n%256, 255-n%256, n%3 == 0
		s, err := Write(p)
		if s != bytesOf(p) || err != api.OK {
			t.Fatalf("%d: %x, %v", n, s, err)
		}
		if back, err := Read(s); back != p || err != api.OK {
			t.Fatalf("%d: %+v, %v", n, back, err)
		}
	}
}

// TestReadOfWrite is for P5.5: the packet, whatever follows it.
func TestReadOfWrite(t *testing.T) {
	for _, x := range samples() {
		if !x.good {
			continue
		}
		s, _ := Write(x.p)
		if len(s) != Size(x.p) {
			t.Errorf("%s: %d bytes, Size %d", x.name, len(s), Size(x.p))
		}
		for _, behind := range []string{"", "\x00", "\xff", "\x94\x04\x00\x00", s, body(1401), strings.Repeat("\xff", 70000)} {
			if p, err := Read(s + behind); p != x.p || err != api.OK {
				t.Errorf("%s, %d behind: %+v, %v", x.name, len(behind), brief(p), err)
			}
		}
	}
}

// TestSameAgain is for the general rules: what a call tells hangs on its arguments alone.
func TestSameAgain(t *testing.T) {
	for _, x := range samples() {
		first, code := Write(x.p)
		Read(first + "behind")
		Hop(first + "behind")
		if again, err := Write(x.p); again != first || err != code {
			t.Errorf("%s: %x, %v", x.name, start(again), err)
		}
	}
}
