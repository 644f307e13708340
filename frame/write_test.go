package frame

import (
	"encoding/hex"
	"testing"

	"acequia/addr"
	"acequia/api"
	"acequia/igmp"
	"acequia/mld"
)

// mac is the address of Ethernet that frames are from.
func mac() api.Mac { return api.Mac{2, 0, 0x5e, 0x10, 0xfe, 9} }

// bytesFrom is the lowest byte of each number.
func bytesFrom(numbers ...int) string {
	out := ""
	for _, n := range numbers {
		out += string([]byte{byte(n)})
	}
	return out
}

// checkOf is the checksum of s: the sum of its words, the last one with a byte 0 if it has only one, taken from 65535.
func checkOf(s string) int {
	if len(s)%2 == 1 {
		s += "\x00"
	}
	total := 0
	for i := 0; i < len(s); i += 2 {
		total += int(s[i])*256 + int(s[i+1])
	}
	for total > 65535 {
		total = total/65536 + total%65536
	}
	return 65535 - total
}

// etherParts is what stands in a frame, one after the other.
type etherParts struct {
	to, from string
	tag      string
	kind     int
	body     string
}

// bytes is the frame of these parts.
func (e etherParts) bytes() string {
	return e.to + e.from + e.tag + bytesFrom(e.kind>>8, e.kind) + e.body
}

// tag is the tag with that number.
func tag(vlan int) string {
	return "\x81\x00" + bytesFrom(vlan>>8, vlan)
}

// macOf is the six bytes to which the group a is mapped.
func macOf(a api.Addr) string {
	if a.V6 {
		return "\x33\x33" + string(a.B[12:16])
	}
	return bytesFrom(1, 0, 0x5e, int(a.B[1])%128, int(a.B[2]), int(a.B[3]))
}

// packetParts is what stands in a packet of either kind; from and to tell which one it is.
type packetParts struct {
	from, to   api.Addr
	proto, hop int
	options    string
	body       string
}

// Options with a Router Alert: of IPv4 those behind the header; of IPv6 all behind the byte that tells what is next.
const (
	alert4 = "\x94\x04\x00\x00"
	alert6 = "\x00\x05\x02\x00\x00\x01\x00"
)

// bytes is the packet of these parts, with the right checksum if it has one.
func (p packetParts) bytes() string {
	if p.to.V6 {
		next, options := p.proto, ""
		if p.options != "" {
			next, options = 0, bytesFrom(p.proto)+p.options
		}
		size := len(options) + len(p.body)
		return bytesFrom(0x60, 0, 0, 0, size>>8, size, next, p.hop) + string(p.from.B[:]) + string(p.to.B[:]) + options + p.body
	}
	head := 20 + len(p.options)
	size := head + len(p.body)
	ahead := bytesFrom(0x40+head/4, 0, size>>8, size, 0, 0, 0, 0, p.hop, p.proto)
	behind := string(p.from.B[:4]) + string(p.to.B[:4]) + p.options
	check := checkOf(ahead + behind)
	return ahead + bytesFrom(check>>8, check) + behind + p.body
}

// kindOf is the type of frames with packets to a.
func kindOf(a api.Addr) int {
	if a.V6 {
		return 0x86dd
	}
	return 0x0800
}

// bodyOf is the bytes of a message on its way between these addresses.
func bodyOf(t api.Talk, from, to api.Addr) string {
	if t.V6 {
		s, _ := mld.Write(t, from, to)
		return s
	}
	s, _ := igmp.Write(t)
	return s
}

// partsOf is the parts of the packet that the good contents s have: the words of the chapter.
func partsOf(s api.Said) packetParts {
	if s.Kind == api.SData {
		return packetParts{from: s.From, to: s.To, proto: s.Proto, hop: s.Hop, body: s.Data}
	}
	p := packetParts{from: s.From, to: s.To, proto: 2, hop: 1, options: alert4, body: bodyOf(s.Talk, s.From, s.To)}
	if s.Talk.V6 {
		p.proto, p.options = 58, alert6
	} else if s.Talk.Version == 1 {
		p.options = ""
	}
	return p
}

// framed is the frame on segment vlan with the packet p.
func framed(vlan int, p packetParts) string {
	e := etherParts{to: macOf(p.to), from: string([]byte{2, 0, 0x5e, 0x10, 0xfe, 9}), kind: kindOf(p.to), body: p.bytes()}
	if vlan > 0 {
		e.tag = tag(vlan)
	}
	return e.bytes()
}

// written is the frame that Write should give of s.
func written(s api.Said) string {
	return framed(s.Vlan, partsOf(s))
}

// known are contents, and their frames, written out byte by byte.
func known() []struct {
	said api.Said
	want string
} {
	return []struct {
		said api.Said
		want string
	}{
		{api.Said{Kind: api.SData, From: host4(), To: group4(), Proto: 17, Hop: 64, Data: "x"},
			"01005e010203" + "02005e10fe09" + "0800" + "45000015" + "00000000" + "40117f4b" + "0a000009" + "ef810203" + "78"},
		{api.Said{Kind: api.SData, Vlan: 4094, From: none4(), To: group4()},
			"01005e010203" + "02005e10fe09" + "81000ffe" + "0800" + "45000014" + "00000000" + "0000c966" + "00000000" + "ef810203"},
		{api.Said{Kind: api.SData, Vlan: 10, From: host6(), To: group6(), Proto: 17, Hop: 255, Data: "xyz"},
			"333381020304" + "02005e10fe09" + "8100000a" + "86dd" + "60000000" + "000311ff" + "20010db8000000000000000000000009" + "ff1e0000000000000000000081020304" + "78797a"},
		{api.Said{Kind: api.STalk, From: host4(), To: at("224.0.0.1"), Talk: api.Talk{Version: 1, Kind: api.TQuery}},
			"01005e000001" + "02005e10fe09" + "0800" + "4500001c" + "00000000" + "0102cfd6" + "0a000009" + "e0000001" + "1100eeff00000000"},
		{api.Said{Kind: api.STalk, Vlan: 1, From: host4(), To: group4(), Talk: api.Talk{Version: 2, Kind: api.TReport, Group: group4()}},
			"01005e010203" + "02005e10fe09" + "81000001" + "0800" + "46000020" + "00000000" + "0102294b" + "0a000009" + "ef810203" + "94040000" + "1600f87aef810203"},
		{api.Said{Kind: api.STalk, Vlan: 10, From: link6(), To: at("ff02::16"), Talk: api.Talk{V6: true, Version: 2, Kind: api.TReport}},
			"333300000016" + "02005e10fe09" + "8100000a" + "86dd" + "60000000" + "00100001" + "fe800000000000000000000000010002" + "ff020000000000000000000000000016" + "3a00050200000100" + "8f00732000000000"},
	}
}

// TestWriteKnown is for P10.3 and P10.4: frames written out byte by byte, and read.
func TestWriteKnown(t *testing.T) {
	for _, x := range known() {
		got, err := Write(x.said, mac())
		if hex.EncodeToString([]byte(got)) != x.want || err != api.OK {
			t.Errorf("%+v is written as %x, %v, not %s", x.said, got, err, x.want)
		}
		b, _ := hex.DecodeString(x.want)
		well(t, "known", string(b), x.said)
	}
}

// TestWrite is for P10.3: all samples, with a tag and without one.
func TestWrite(t *testing.T) {
	for _, x := range samples() {
		if got, err := Write(x.said, mac()); got != written(x.said) || err != api.OK {
			t.Errorf("%s: %+v is written as %x, %v, not %x", x.name, x.said, got, err, written(x.said))
		}
	}
}

// TestWriteFrom is for P10.3: the frame is from whatever address of Ethernet is given, and nothing else changes with it.
func TestWriteFrom(t *testing.T) {
	for _, x := range plain() {
		want := written(x.said)
		for _, m := range []api.Mac{{}, {1, 2, 3, 4, 5, 6}, {0xff, 0xff, 0xff, 0xff, 0xff, 0xff}, {1, 0, 0x5e, 1, 2, 3}} {
			got, err := Write(x.said, m)
			if got != want[:6]+string(m[:])+want[12:] || err != api.OK {
				t.Errorf("%s from %s: %x, %v", x.name, addr.PrintMac(m), got, err)
			}
			well(t, x.name, got, x.said)
		}
	}
}
