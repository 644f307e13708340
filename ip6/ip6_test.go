package ip6

import (
	"math"
	"strings"
	"testing"

	"acequia/api"
)

var (
	host  = api.Addr{V6: true, B: [16]byte{0xfe, 0x80, 8: 2, 9: 0xfe, 15: 9}}
	group = api.Addr{V6: true, B: [16]byte{0xff, 0x1e, 14: 1, 15: 2}}
)

// plain is a good packet without an alert.
func plain() api.Ip6 {
	return api.Ip6{Class: 0xc1, Flow: 0x12345, Next: 17, Hop: 64, From: host, To: group, Body: "body!"}
}

// alerted is a good packet with an alert.
func alerted() api.Ip6 {
	p := plain()
	p.Alert, p.Hop, p.Next = true, 1, 58
	return p
}

// bodied is p with a body of that many bytes.
func bodied(p api.Ip6, size int) api.Ip6 {
	p.Body = body(size)
	return p
}

// body is a body of that many bytes, no two neighbours of which are the same.
func body(size int) string {
	out := make([]byte, size)
	for i := range out {
		out[i] = byte(i*7 + i/256)
	}
	return string(out)
}

// bytesFrom is the bytes of these numbers, each of one byte.
func bytesFrom(numbers ...int) string {
	out := make([]byte, len(numbers))
	for i, n := range numbers {
		out[i] = byte(n)
	}
	return string(out)
}

// brief is p without most of its body, for what a test tells.
func brief(p api.Ip6) api.Ip6 {
	p.Body = p.Body[:min(len(p.Body), 8)]
	return p
}

// start is the beginning of s, for what a test tells.
func start(s string) string {
	return s[:min(len(s), 80)]
}

// sample is a packet, and whether it is good.
type sample struct {
	name string
	p    api.Ip6
	good bool
}

// numberSamples are packets with all numbers at the borders that the chapter names, one field after the other.
func numberSamples() []sample {
	var out []sample
	for _, n := range []int{math.MinInt, -1 << 32, -1 << 20, -65536, -256, -255, -1, 0, 1, 58, 127, 128, 254, 255, 256, 257, 511, 65535, 65536, 1<<19 - 1, 1 << 19, 1<<20 - 2, 1<<20 - 1, 1 << 20, 1<<20 + 1, 1 << 28, 1 << 32, 1<<32 + 1, math.MaxInt} {
		for _, p := range []api.Ip6{plain(), alerted()} {
			class, flow, next, hop := p, p, p, p
			class.Class, flow.Flow, next.Next, hop.Hop = n, n, n, n
			small := n >= 0 && n <= 255
			out = append(out, sample{"class", class, small}, sample{"flow", flow, n >= 0 && n <= 1048575}, sample{"next", next, small && n != 0}, sample{"hop", hop, small})
		}
	}
	return out
}

// addrSamples are packets with addresses of both families.
func addrSamples() []sample {
	var out []sample
	add := func(name string, a api.Addr, good bool) {
		for _, p := range []api.Ip6{plain(), alerted()} {
			from, to, both := p, p, p
			from.From, to.To, both.From, both.To = a, a, a, a
			out = append(out, sample{name + ", from", from, good}, sample{name + ", to", to, good}, sample{name + ", both", both, good})
		}
	}
	all := api.Addr{V6: true}
	for i := range all.B {
		all.B[i] = 255
		one := api.Addr{V6: true}
		one.B[i] = 128
		add("one byte", one, true)
	}
	add("zero", api.Addr{V6: true}, true)
	add("all bits", all, true)
	add("a host", host, true)
	add("a group", group, true)
	add("four bytes", api.Addr{V6: true, B: [16]byte{10, 0, 0, 9}}, true)
	add("of IPv4", api.Addr{B: [16]byte{10, 0, 0, 9}}, false)
	add("the zero of IPv4", api.Addr{}, false)
	add("of neither", api.Addr{B: host.B}, false)
	return out
}

// samples are packets of all kinds, good and not.
func samples() []sample {
	none := api.Addr{V6: true}
	out := []sample{{"plain", plain(), true}, {"alerted", alerted(), true}, {"zero", api.Ip6{}, false}, {"zero with an alert", api.Ip6{Alert: true}, false},
		{"least", api.Ip6{Next: 1, From: none, To: none}, true}, {"least with an alert", api.Ip6{Next: 1, From: none, To: none, Alert: true}, true}}
	for _, size := range []int{0, 1, 2, 7, 8, 40, 255, 256, 1344, 1392, 1399, 1400, 1401, 1402, 1408, 1500, 65535, 65536} {
		out = append(out, sample{"body", bodied(plain(), size), size <= 1400}, sample{"body, alerted", bodied(alerted(), size), size <= 1400})
	}
	highest := api.Ip6{Class: 255, Flow: 1048575, Next: 255, Hop: 255, From: host, To: group, Body: body(1400)}
	out = append(out, sample{"highest", highest, true})
	highest.Alert = true
	out = append(out, sample{"highest, alerted", highest, true})
	out = append(out, numberSamples()...)
	return append(out, addrSamples()...)
}

// bytesOf is the bytes of p as the chapter lists them.
func bytesOf(p api.Ip6) string {
	next, options := p.Next, ""
	if p.Alert {
		next, options = 0, bytesFrom(p.Next, 0, 5, 2, 0, 0, 1, 0)
	}
	size := len(options) + len(p.Body)
	class, flow := p.Class, p.Flow
	return bytesFrom(6*16+class/16, class%16*16+flow/65536, flow/256, flow, size/256, size, next, p.Hop) + string(p.From.B[:]) + string(p.To.B[:]) + options + p.Body
}

// TestGood is for P6.1.
func TestGood(t *testing.T) {
	for _, x := range samples() {
		if got := Good(x.p); got != x.good {
			t.Errorf("%s: Good(%+v) = %v", x.name, brief(x.p), got)
		}
	}
}

// TestGoodOfAllNumbers is for P6.1: each number by itself, far over both borders.
func TestGoodOfAllNumbers(t *testing.T) {
	for n := -70000; n <= 1<<20+70000; n++ {
		class, flow, next, hop := plain(), plain(), alerted(), plain()
		class.Class, flow.Flow, next.Next, hop.Hop = n, n, n, n
		small := n >= 0 && n <= 255
		if Good(class) != small || Good(hop) != small || Good(next) != (small && n != 0) || Good(flow) != (n >= 0 && n <= 1048575) {
			t.Fatalf("%d: %v, %v, %v, %v", n, Good(class), Good(hop), Good(next), Good(flow))
		}
	}
}

// TestGoodOfTwo is for P6.1 and P6.2: two things that are wrong at once don't make up for one another.
func TestGoodOfTwo(t *testing.T) {
	wrongs := []func(*api.Ip6){
		func(p *api.Ip6) { p.Class = -1 }, func(p *api.Ip6) { p.Class = 256 },
		func(p *api.Ip6) { p.Flow = -1 }, func(p *api.Ip6) { p.Flow = 1 << 20 },
		func(p *api.Ip6) { p.Next = 0 }, func(p *api.Ip6) { p.Next = 256 },
		func(p *api.Ip6) { p.Hop = -1 }, func(p *api.Ip6) { p.Hop = 256 },
		func(p *api.Ip6) { p.From = api.Addr{} }, func(p *api.Ip6) { p.To = api.Addr{} },
		func(p *api.Ip6) { p.Body = body(1401) },
	}
	for i, one := range wrongs {
		for k, other := range wrongs {
			for _, p := range []api.Ip6{plain(), alerted()} {
				one(&p)
				other(&p)
				if s, err := Write(p); Good(p) || s != "" || err != api.ErrForm {
					t.Errorf("%d and %d: %+v: %v, %x, %v", i, k, brief(p), Good(p), start(s), err)
				}
			}
		}
	}
}

// TestSize is for P6.1; of a packet that is not good the size is told as well.
func TestSize(t *testing.T) {
	for _, x := range samples() {
		want := 40 + len(x.p.Body)
		if x.p.Alert {
			want = 48 + len(x.p.Body)
		}
		if got := Size(x.p); got != want {
			t.Errorf("%s: Size(%+v) = %d, not %d", x.name, brief(x.p), got, want)
		}
	}
	for size := range 1402 {
		if a, b := Size(bodied(plain(), size)), Size(bodied(alerted(), size)); a != 40+size || b != 48+size {
			t.Errorf("%d: %d, %d", size, a, b)
		}
	}
}

// TestWrite is for P6.2.
func TestWrite(t *testing.T) {
	for _, x := range samples() {
		want, code := "", api.ErrForm
		if x.good {
			want, code = bytesOf(x.p), api.OK
		}
		if got, err := Write(x.p); got != want || err != code {
			t.Errorf("%s: Write(%+v) = %x, %v, not %x, %v", x.name, brief(x.p), start(got), err, start(want), code)
		}
	}
}

// TestWriteKnown is for P6.2: packets whose bytes are written out here.
func TestWriteKnown(t *testing.T) {
	const (
		bytesHost  = "\xfe\x80\x00\x00\x00\x00\x00\x00\x02\xfe\x00\x00\x00\x00\x00\x09"
		bytesGroup = "\xff\x1e\x00\x00\x00\x00\x00\x00\x00\x00\x00\x00\x00\x00\x01\x02"
	)
	zeros := strings.Repeat("\x00", 32)
	none := api.Addr{V6: true}
	for _, x := range []struct {
		p    api.Ip6
		want string
	}{
		{api.Ip6{Next: 1, From: none, To: none}, "\x60\x00\x00\x00\x00\x00\x01\x00" + zeros},
		{api.Ip6{Next: 1, From: none, To: none, Alert: true}, "\x60\x00\x00\x00\x00\x08\x00\x00" + zeros + "\x01\x00\x05\x02\x00\x00\x01\x00"},
		{plain(), "\x6c\x11\x23\x45\x00\x05\x11\x40" + bytesHost + bytesGroup + "body!"},
		{alerted(), "\x6c\x11\x23\x45\x00\x0d\x00\x01" + bytesHost + bytesGroup + "\x3a\x00\x05\x02\x00\x00\x01\x00body!"},
		{api.Ip6{Class: 255, Next: 255, Hop: 255, From: group, To: host}, "\x6f\xf0\x00\x00\x00\x00\xff\xff" + bytesGroup + bytesHost},
		{api.Ip6{Flow: 0xfffff, Next: 2, Hop: 3, From: host, To: host, Alert: true, Body: "\x00"}, "\x60\x0f\xff\xff\x00\x09\x00\x03" + bytesHost + bytesHost + "\x02\x00\x05\x02\x00\x00\x01\x00\x00"},
		{bodied(plain(), 1400), "\x6c\x11\x23\x45\x05\x78\x11\x40" + bytesHost + bytesGroup + body(1400)},
		{bodied(alerted(), 1400), "\x6c\x11\x23\x45\x05\x80\x00\x01" + bytesHost + bytesGroup + "\x3a\x00\x05\x02\x00\x00\x01\x00" + body(1400)},
	} {
		if got, err := Write(x.p); got != x.want || err != api.OK {
			t.Errorf("%+v: %x, %v", brief(x.p), start(got), err)
		}
		if back, err := Read(x.want); back != x.p || err != api.OK {
			t.Errorf("%x: %+v, %v", start(x.want), brief(back), err)
		}
	}
}

// TestWriteOfAllNumbers is for P6.2 and P6.5: each good number by itself, the Flow together with all others.
func TestWriteOfAllNumbers(t *testing.T) {
	for n := range 1 << 20 {
		p := plain()
		p.Flow, p.Class, p.Hop, p.Next, p.Alert = n, n%256, 255-n/4096, 1+n%255, n%3 == 0
		s, err := Write(p)
		if s != bytesOf(p) || err != api.OK {
			t.Fatalf("%d: %x, %v", n, s, err)
		}
		if back, err := Read(s); back != p || err != api.OK {
			t.Fatalf("%d: %+v, %v", n, back, err)
		}
	}
}

// TestReadOfWrite is for P6.5: the packet, whatever follows it.
func TestReadOfWrite(t *testing.T) {
	for _, x := range samples() {
		if !x.good {
			continue
		}
		s, _ := Write(x.p)
		if len(s) != Size(x.p) {
			t.Errorf("%s: %d bytes, Size %d", x.name, len(s), Size(x.p))
		}
		for _, behind := range []string{"", "\x00", "\xff", "\x3a\x00\x05\x02\x00\x00\x01\x00", s, body(1401), strings.Repeat("\xff", 70000)} {
			if p, err := Read(s + behind); p != x.p || err != api.OK {
				t.Errorf("%s, %d behind: %+v, %v", x.name, len(behind), brief(p), err)
			}
		}
	}
}

// TestSameAgain is for the general rules: what a call tells hangs on its arguments alone.
func TestSameAgain(t *testing.T) {
	for _, x := range samples() {
		first, code := Write(x.p)
		Read(first + "behind")
		Options(first)
		if again, err := Write(x.p); again != first || err != code {
			t.Errorf("%s: %x, %v", x.name, start(again), err)
		}
	}
}
