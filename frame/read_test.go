package frame

import (
	"slices"
	"strings"
	"testing"

	"acequia/addr"
	"acequia/api"
)

// start is the beginning of b, for a report of what went wrong.
func start(b string) string {
	return b[:min(len(b), 120)]
}

// badly checks that b is no frame, or no good one, for that reason, and that nothing else is told.
func badly(t *testing.T, name, b string, code api.Errno) {
	t.Helper()
	if got, err := Read(b); err != code || !equal(got, api.Said{}) {
		t.Errorf("%s, %x: %+v, %v, not %v", name, start(b), got, err, code)
	}
}

// well checks that b says want.
func well(t *testing.T, name, b string, want api.Said) {
	t.Helper()
	if got, err := Read(b); err != api.OK || !equal(got, want) {
		t.Errorf("%s, %x: %+v, %v, not %+v", name, start(b), got, err, want)
	}
}

// equal holds contents against each other.
func equal(a, b api.Said) bool {
	x, y := a.Talk, b.Talk
	if len(x.Records) != len(y.Records) || !slices.Equal(x.Sources, y.Sources) {
		return false
	}
	for i, r := range x.Records {
		if r.Kind != y.Records[i].Kind || r.Group != y.Records[i].Group || !slices.Equal(r.Sources, y.Records[i].Sources) {
			return false
		}
	}
	return a.Kind == b.Kind && a.Vlan == b.Vlan && a.From == b.From && a.To == b.To && a.Proto == b.Proto && a.Hop == b.Hop && a.Data == b.Data &&
		x.V6 == y.V6 && x.Version == y.Version && x.Kind == y.Kind && x.Resp == y.Resp && x.Group == y.Group && x.Quiet == y.Quiet && x.Robust == y.Robust && x.Every == y.Every
}

// nothing is what frames on a segment say that are neither messages nor data.
func nothing(vlan int) api.Said {
	return api.Said{Vlan: vlan}
}

// changed is the frame of the good contents s, with its packet changed.
func changed(s api.Said, change func(*packetParts)) string {
	p := partsOf(s)
	change(&p)
	return framed(s.Vlan, p)
}

// sealed4 is s with the right checksum of a message of IGMP.
func sealed4(s string) string {
	check := checkOf(s[:2] + s[4:])
	return s[:2] + bytesFrom(check>>8, check) + s[4:]
}

// sealed6 is s with the right checksum of a message of MLD between these addresses.
func sealed6(s string, from, to api.Addr) string {
	check := checkOf(string(from.B[:]) + string(to.B[:]) + bytesFrom(0, 0, len(s)>>8, len(s), 0, 0, 0, 58) + s[:2] + s[4:])
	return s[:2] + bytesFrom(check>>8, check) + s[4:]
}

// TestReadOfWrite is for P10.5: all samples come back, and what comes back is good.
func TestReadOfWrite(t *testing.T) {
	for _, x := range samples() {
		b, err := Write(x.said, mac())
		if err != api.OK {
			t.Errorf("%s: %v", x.name, err)
		}
		well(t, x.name, b, x.said)
		if got, _ := Read(b); !Same(got, x.said) || !Same(x.said, got) || !Good(got) {
			t.Errorf("%s: %+v is another one, or not good", x.name, got)
		}
	}
}

// TestReadExample is the example of the chapter: a message whose Ttl is 2 gives ErrForm.
func TestReadExample(t *testing.T) {
	for _, x := range append(talks4(), talks6()...) {
		s := telling(x)
		badly(t, x.name, changed(s, func(p *packetParts) { p.hop = 2 }), api.ErrForm)
		well(t, x.name, changed(s, func(p *packetParts) { p.hop = 1 }), s)
	}
}

// TestReadEther is for P10.4: the errors of the frame.
func TestReadEther(t *testing.T) {
	for _, x := range plain() {
		b := written(x.said)
		for size := range 18 {
			badly(t, "too short", b[:size], api.ErrEnd)
		}
		for _, word := range []int{4095, 0x1000, 0x100a, 0xffff, 0xefff, 0x1ffe} {
			badly(t, "tag", b[:12]+tag(word)+b[16:], api.ErrKind)
		}
		for _, kind := range []int{0, 1, 1500, 1535, 0x8100} {
			badly(t, "type", b[:16]+bytesFrom(kind>>8, kind)+b[18:], api.ErrKind)
		}
		badly(t, "too long", b+strings.Repeat("x", 1501), api.ErrLong)
		badly(t, "too long", b+strings.Repeat("x", 1501+18-len(b)), api.ErrLong)
		well(t, "as long as may be", b+strings.Repeat("x", 1500+18-len(b)), x.said)
		plain := with(x.said, func(s *api.Said) { s.Vlan = 0 })
		b = written(plain)
		for size := range 14 {
			badly(t, "too short", b[:size], api.ErrEnd)
		}
		for _, kind := range []int{0, 1, 1500, 1535} {
			badly(t, "type", b[:12]+bytesFrom(kind>>8, kind)+b[14:], api.ErrKind)
		}
		badly(t, "too long", b+strings.Repeat("x", 1501+14-len(b)), api.ErrLong)
		well(t, "as long as may be", b+strings.Repeat("x", 1500+14-len(b)), plain)
	}
}

// TestReadTag is for P10.4: a tag of Vlan 0, and of any Prio, is as good as another.
func TestReadTag(t *testing.T) {
	for _, x := range plain() {
		b := written(x.said)
		for prio := range 8 {
			for _, vlan := range []int{0, 1, 10, 255, 256, 4094} {
				want := with(x.said, func(s *api.Said) { s.Vlan = vlan })
				well(t, x.name, b[:12]+tag(prio<<13|vlan)+b[16:], want)
				well(t, "no packet", b[:12]+tag(prio<<13|vlan)+"\x08\x06"+b[18:], nothing(vlan))
			}
		}
		well(t, x.name+" without a tag", b[:12]+b[16:], with(x.said, func(s *api.Said) { s.Vlan = 0 }))
		for _, from := range []string{"\x00\x00\x00\x00\x00\x00", "\xff\xff\xff\xff\xff\xff", "\x01\x00\x5e\x01\x02\x03"} {
			well(t, x.name+" from another address of Ethernet", b[:6]+from+b[12:], x.said)
		}
	}
}

// TestReadOtherTypes is for P10.4: frames that contain neither IPv4 nor IPv6, whatever they contain, and wherever they go.
func TestReadOtherTypes(t *testing.T) {
	for _, kind := range []int{1536, 0x0801, 0x07ff, 0x0806, 0x0900, 0x8101, 0x80ff, 0x86dc, 0x86de, 0x87dd, 0x88a8, 0xdd86, 0xffff} {
		for _, to := range []string{"\x01\x00\x5e\x01\x02\x03", "\xff\xff\xff\xff\xff\xff", "\x00\x00\x00\x00\x00\x00", "\x33\x33\x00\x00\x00\x01"} {
			for _, body := range []string{"", "x", partsOf(data4()).bytes(), partsOf(data6()).bytes(), strings.Repeat("x", 1500)} {
				e := etherParts{to: to, from: "sender", kind: kind, body: body}
				well(t, "another type", e.bytes(), nothing(0))
				for _, vlan := range []int{0, 1, 10, 4094} {
					e.tag = tag(vlan)
					well(t, "another type with a tag", e.bytes(), nothing(vlan))
				}
			}
		}
	}
}

// TestReadPacket is for P10.4: the errors of packets, of which the frame tells the kind.
func TestReadPacket(t *testing.T) {
	in := func(x api.Said, body string) string {
		return etherParts{to: macOf(x.To), from: "sender", tag: tag(10), kind: kindOf(x.To), body: body}.bytes()
	}
	for _, x := range plain() {
		p := partsOf(x.said).bytes()
		for size := range p {
			badly(t, x.name+" cut", in(x.said, p[:size]), api.ErrEnd)
		}
		for _, first := range []int{0x05, 0x15, 0x35, 0x55, 0x75, 0xf5} {
			badly(t, x.name+" of no version", in(x.said, bytesFrom(first)+p[1:]), api.ErrKind)
		}
		well(t, x.name+" and more behind", in(x.said, p+"more behind"), x.said)
		if x.said.To.V6 {
			badly(t, "version 4", in(x.said, "\x45"+p[1:]), api.ErrKind)
			continue
		}
		badly(t, "version 6", in(x.said, "\x65"+p[1:]), api.ErrKind)
		badly(t, "a small header", in(x.said, "\x44"+p[1:]), api.ErrForm)
		badly(t, "another checksum", in(x.said, p[:10]+bytesFrom(int(p[10])^1)+p[11:]), api.ErrSum)
		head := int(p[0]%16) * 4
		anew := func(at int, b string) string {
			q := p[:at] + b + p[at+len(b):]
			check := checkOf(q[:10] + q[12:head])
			return q[:10] + bytesFrom(check>>8, check) + q[12:]
		}
		badly(t, "smaller than its header", in(x.said, anew(2, "\x00\x13")), api.ErrForm)
		badly(t, "larger than the frame", in(x.said, anew(2, bytesFrom((len(p)+1)>>8, len(p)+1))), api.ErrEnd)
		badly(t, "a fragment", in(x.said, anew(6, "\x20\x00")), api.ErrKind)
	}
	badly(t, "ill options of 4", in(data4(), packetParts{from: host4(), to: group4(), options: "\x94\x01\x00\x00"}.bytes()), api.ErrForm)
	badly(t, "too much of 4", in(data4(), packetParts{from: host4(), to: group4(), proto: 17, body: body(1401)}.bytes()), api.ErrLong)
	badly(t, "too much of 6", in(data6(), packetParts{from: host6(), to: group6(), proto: 17, body: body(1401)}.bytes()), api.ErrLong)
	badly(t, "no whole options of 6", in(data6(), packetParts{from: host6(), to: group6(), proto: 17, options: "\x00\x05\x02"}.bytes()), api.ErrForm)
	badly(t, "ill options of 6", in(data6(), packetParts{from: host6(), to: group6(), proto: 17, options: "\x00\x05\x05\x00\x00\x01\x00"}.bytes()), api.ErrForm)
	badly(t, "unknown options of 6", in(data6(), packetParts{from: host6(), to: group6(), proto: 17, options: "\x00\xc2\x02\x00\x00\x01\x00"}.bytes()), api.ErrKind)
	badly(t, "options twice", in(data6(), packetParts{from: host6(), to: group6(), proto: 0, options: alert6}.bytes()), api.ErrForm)
	// The type of the frame counts, not what the packet begins with.
	four, six := partsOf(data4()).bytes(), partsOf(data6()).bytes()
	badly(t, "4 as 6", etherParts{to: macOf(group6()), from: "sender", kind: 0x86dd, body: four + six}.bytes(), api.ErrKind)
	badly(t, "6 as 4", etherParts{to: macOf(group4()), from: "sender", kind: 0x0800, body: six}.bytes(), api.ErrKind)
}

// TestReadFromGroup is for P10.4: packets from a group, to whomever they are.
func TestReadFromGroup(t *testing.T) {
	for _, x := range plain() {
		list := []api.Addr{at("224.0.0.0"), at("224.0.0.1"), group4(), at("239.255.255.255")}
		if x.said.To.V6 {
			list = []api.Addr{at("ff00::"), at("ff02::1"), group6(), at("ffff:ffff:ffff:ffff:ffff:ffff:ffff:ffff")}
		}
		for _, from := range list {
			p := partsOf(with(x.said, func(s *api.Said) { s.From = from }))
			badly(t, x.name+" from a group", framed(10, p), api.ErrForm)
			p.to.B[0] = 10
			badly(t, x.name+" from a group to a host", framed(10, p), api.ErrForm)
		}
	}
	for first := range 256 {
		from := at("0.1.2.3")
		from.B[0] = byte(first)
		p := partsOf(with(data4(), func(s *api.Said) { s.From = from }))
		if first >= 224 && first < 240 {
			badly(t, "from a group", framed(10, p), api.ErrForm)
		} else {
			well(t, "from no group", framed(10, p), with(data4(), func(s *api.Said) { s.From = from }))
		}
		from.V6 = true
		p = partsOf(with(data6(), func(s *api.Said) { s.From = from }))
		if first == 255 {
			badly(t, "from a group", framed(10, p), api.ErrForm)
		} else {
			well(t, "from no group", framed(10, p), with(data6(), func(s *api.Said) { s.From = from }))
		}
	}
}

// TestReadToHost is for P10.4: packets that are not to a group say nothing, whatever is in them, and wherever the frame goes.
func TestReadToHost(t *testing.T) {
	for _, x := range plain() {
		list := []api.Addr{none4(), host4(), at("223.255.255.255"), at("240.0.0.0"), at("255.255.255.255")}
		if x.said.To.V6 {
			list = []api.Addr{none6(), host6(), link6(), at("feff:ffff::1"), at("::ff00")}
		}
		for _, to := range list {
			p := partsOf(x.said)
			p.to = to
			e := etherParts{from: "sender", kind: kindOf(to), body: p.bytes()}
			for _, m := range []string{macOf(to), macOf(x.said.To), "\x00\x00\x00\x00\x00\x00", "\xff\xff\xff\xff\xff\xff"} {
				e.to, e.tag = m, ""
				well(t, x.name+" to a host", e.bytes(), nothing(0))
				e.tag = tag(0x600a)
				well(t, x.name+" to a host with a tag", e.bytes(), nothing(10))
			}
		}
	}
	// A message is not even looked at.
	p := packetParts{from: host4(), to: host4(), proto: 2, hop: 5, body: "no message"}
	well(t, "to a host", framed(7, p), nothing(7))
}

// TestReadMapped is for P10.4: every bit of the address of Ethernet counts.
func TestReadMapped(t *testing.T) {
	for _, x := range plain() {
		b := written(x.said)
		for place := range 6 {
			for bit := range 8 {
				badly(t, x.name, b[:place]+bytesFrom(int(b[place])^1<<bit)+b[place+1:], api.ErrForm)
			}
		}
		badly(t, x.name+" to all", "\xff\xff\xff\xff\xff\xff"+b[6:], api.ErrForm)
	}
	// The highest bit of the second byte of a group of IPv4 is not mapped, and all but the last four bytes of one of IPv6 are not.
	for _, x := range []api.Said{with(data4(), func(s *api.Said) { s.To = at("224.1.2.3") }), with(data4(), func(s *api.Said) { s.To = at("239.1.2.3") })} {
		well(t, "the same address", "\x01\x00\x5e\x01\x02\x03"+written(x)[6:], x)
	}
	for _, x := range []api.Said{with(data6(), func(s *api.Said) { s.To = at("ff02::8102:304") }), with(data6(), func(s *api.Said) { s.To = at("ff35:1:2:3:4:5:8102:304") })} {
		well(t, "the same address", "\x33\x33\x81\x02\x03\x04"+written(x)[6:], x)
	}
}

// TestReadHop is for P10.4: messages that go another number of hops, and data that goes any.
func TestReadHop(t *testing.T) {
	for _, x := range plain() {
		for hop := range 256 {
			b := changed(x.said, func(p *packetParts) { p.hop = hop })
			switch {
			case x.said.Kind == api.SData:
				well(t, x.name, b, with(x.said, func(s *api.Said) { s.Hop = hop }))
			case hop == 1:
				well(t, x.name, b, x.said)
			default:
				badly(t, x.name, b, api.ErrForm)
			}
		}
	}
}

// TestReadAlert is for P10.4: messages without an alert, with one among other options, and with others alone.
func TestReadAlert(t *testing.T) {
	for _, x := range plain() {
		with := []string{alert4, "\x01\x01\x01\x01" + alert4, alert4 + "\x07\x04ab", "\x01\x94\x04\x00\x00\x00\x00\x00"}
		without := []string{"", "\x00\x00\x00\x00", "\x01\x01\x01\x01", "\x94\x04\x00\x01", "\x07\x04\x00\x00"}
		if x.said.To.V6 {
			with = []string{alert6, "\x00\x01\x00\x05\x02\x00\x00", "\x00\x00\x00\x05\x02\x00\x00"}
			without = []string{"", "\x00\x01\x04\x00\x00\x00\x00", "\x00\x05\x02\x00\x01\x01\x00"}
		}
		for _, options := range with {
			well(t, x.name+" with an alert", changed(x.said, func(p *packetParts) { p.options = options }), x.said)
		}
		for _, options := range without {
			b := changed(x.said, func(p *packetParts) { p.options = options })
			if x.said.Kind == api.SData || !x.said.To.V6 && x.said.Talk.Version == 1 {
				well(t, x.name+" without an alert", b, x.said)
			} else {
				badly(t, x.name+" without an alert", b, api.ErrForm)
			}
		}
	}
}

// TestReadTo is for P10.4: messages that are to a group other than their Dest, among them a leave to its own Group.
func TestReadTo(t *testing.T) {
	dests := []api.Addr{group4(), group6(), at("224.0.0.1"), at("224.0.0.2"), at("224.0.0.22"), at("224.0.0.16"), at("239.1.2.3"), at("ff02::1"), at("ff02::2"), at("ff02::16"), at("ff02::22"), at("ff01::1"), at("ff02:1::2"), at("ff1e:1::8102:304")}
	for _, x := range append(talks4(), talks6()...) {
		for _, to := range dests {
			if to.V6 != x.talk.V6 {
				continue
			}
			p := partsOf(telling(x))
			p.to, p.body = to, bodyOf(x.talk, p.from, to)
			if to == x.to {
				well(t, x.name, framed(10, p), telling(x))
			} else {
				badly(t, x.name+" to "+addr.Print(to), framed(10, p), api.ErrForm)
			}
		}
	}
	for _, x := range []api.Talk{{Version: 2, Kind: api.TLeave, Group: group4()}, {V6: true, Version: 1, Kind: api.TLeave, Group: group6()}} {
		s := telling(destined{talk: x, to: x.Group})
		badly(t, "a leave to its own group", framed(10, partsOf(s)), api.ErrForm)
	}
}

// TestReadFrom is for P10.4: senders of messages: on the link with IPv6, or zero unless it is a query; any but groups with IPv4.
func TestReadFrom(t *testing.T) {
	list := []api.Addr{none4(), at("0.0.0.1"), host4(), at("223.255.255.255"), at("240.0.0.0"), at("255.255.255.255"), none6(), host6(), at("::1"), at("fe80::"), at("febf:ffff::"),
		at("fe7f:ffff::"), at("fec0::"), at("fe00::1"), at("fe40::1"), at("feff::1"), at("fd80::1"), at("7e80::1")}
	for _, x := range append(talks4(), talks6()...) {
		for _, from := range list {
			if from.V6 != x.talk.V6 {
				continue
			}
			s := with(telling(x), func(s *api.Said) { s.From = from })
			b := framed(10, partsOf(s))
			onLink := from.B[0] == 254 && from.B[1] >= 128 && from.B[1] < 192
			if !from.V6 || onLink || from == none6() && x.talk.Kind != api.TQuery {
				well(t, x.name+" from "+addr.Print(from), b, s)
			} else {
				badly(t, x.name+" from "+addr.Print(from), b, api.ErrForm)
			}
		}
	}
}

// TestReadTalk is for P10.4: each error of messages.
func TestReadTalk(t *testing.T) {
	four := func(body string) string {
		return framed(10, packetParts{from: host4(), to: group4(), proto: 2, hop: 1, options: alert4, body: body})
	}
	g4, g6 := addr.Bytes(group4()), addr.Bytes(group6())
	for body, code := range map[string]api.Errno{
		"": api.ErrEnd, "\x16\x00\x00\x00\xef\x01\x02": api.ErrEnd, "\x16\x00\x00\x00" + g4: api.ErrSum, sealed4("\x13\x00\x00\x00" + g4): api.ErrKind, sealed4("\x82\x00\x00\x00" + g4): api.ErrKind,
		sealed4("\x16\x00\x00\x00\x0a\x01\x02\x03"): api.ErrForm, sealed4("\x11\x05\x00\x00" + g4 + "\x00"): api.ErrForm, sealed4("\x11\x05\x00\x00" + g4 + "\x00\x00\x00\x01"): api.ErrEnd,
		sealed4("\x11\x05\x00\x00" + g4 + "\x00\x00\x00\x41"): api.ErrLong, sealed4("\x22\x00\x00\x00\x00\x00\x00\x41"): api.ErrLong, sealed4("\x22\x00\x00\x00\x00\x00\x00\x01"): api.ErrEnd,
	} {
		badly(t, "igmp", four(body), code)
	}
	six := func(body string) string {
		if len(body) > 4 && body[2:4] == "??" {
			body = sealed6(body, link6(), group6())
		}
		return framed(10, packetParts{from: link6(), to: group6(), proto: 58, hop: 1, options: alert6, body: body})
	}
	for body, code := range map[string]api.Errno{
		"\x82": api.ErrEnd, "\x83\x00??\x00\x00\x00": api.ErrEnd, "\x83\x00??\x00\x00\x00\x00": api.ErrEnd, "\x84\x00\x00\x00\x00\x00\x00\x00" + g6: api.ErrSum,
		"\x83\x00??\x00\x00\x00\x00" + addr.Bytes(host6()): api.ErrForm, "\x82\x00??\x00\x00\x00\x00" + g6 + "\x00": api.ErrForm, "\x82\x00??\x00\x00\x00\x00" + g6 + "\x00\x00\x00\x01": api.ErrEnd,
		"\x82\x00??\x00\x00\x00\x00" + g6 + "\x00\x00\x00\x41": api.ErrLong, "\x8f\x00??\x00\x00\x00\x41": api.ErrLong, "\x8f\x00??\x00\x00\x00\x01": api.ErrEnd,
	} {
		badly(t, "mld", six(body), code)
	}
	// The checksum of a message of MLD takes in the addresses, so it is wrong from anybody else.
	p := partsOf(telling(talks6()[2]))
	p.from = at("fe80::99")
	badly(t, "from somebody else", framed(10, p), api.ErrSum)
}

// TestReadData is for P10.4: packets of other protocols are data, those of the other kind's messages too.
func TestReadData(t *testing.T) {
	report4, report6 := bodyOf(talks4()[4].talk, host4(), group4()), bodyOf(talks6()[2].talk, link6(), group6())
	for _, data := range []string{"", "x", report4, report6, body(1400)} {
		for proto := range 256 {
			s := with(data4(), func(s *api.Said) { s.Proto, s.Data = proto, data })
			if proto != 2 {
				well(t, "data 4", written(s), s)
				well(t, "data 4 with an alert", changed(s, func(p *packetParts) { p.options = alert4 }), s)
			}
			s = with(data6(), func(s *api.Said) { s.From, s.Proto, s.Data = link6(), proto, data })
			if proto > 0 && (proto != 58 || data != report6) {
				well(t, "data 6", written(s), s)
				well(t, "data 6 with an alert", changed(s, func(p *packetParts) { p.options = alert6 }), s)
			}
		}
	}
	for first := range 256 {
		for _, behind := range []string{"", "\x00", report6[1:]} {
			s := with(data6(), func(s *api.Said) { s.From, s.Proto, s.Hop, s.Data = link6(), 58, 1, bytesFrom(first)+behind })
			b := changed(s, func(p *packetParts) { p.options = alert6 })
			switch first {
			case 130, 131, 132, 143:
				if got, err := Read(b); err == api.OK && got.Kind != api.STalk {
					t.Errorf("%d is no message: %+v", first, got)
				}
			default:
				well(t, "no message", b, s)
			}
		}
	}
}

// TestReadFirstError is for P10.4: of several errors the first one of the chapter's order counts.
func TestReadFirstError(t *testing.T) {
	cast := "\x01\x00\x5e\x7f\x00\x09"
	in := func(to string, kind int, body string) string {
		return etherParts{to: to, from: "sender", tag: tag(10), kind: kind, body: body}.bytes()
	}
	four := func(p packetParts) string { return in(macOf(group4()), 0x0800, p.bytes()) }
	unsummed := func(b string) string { return b[:28] + bytesFrom(int(b[28])^1) + b[29:] }
	bad4 := packetParts{from: host4(), to: group4(), proto: 2, hop: 7, body: "no message"}
	unsealed := packetParts{from: host4(), to: group4(), proto: 2, hop: 7, body: "\x13\x00\x00\x00\xef\x01\x02\x03"}
	kindless := packetParts{from: host4(), to: group4(), proto: 2, hop: 7, body: sealed4("\x13\x00\x00\x00\xef\x01\x02\x03")}
	fromGroup := bad4
	fromGroup.from = at("224.0.0.1")
	toHost := bad4
	toHost.to = host4()
	groupToHost := fromGroup
	groupToHost.to = host4()
	for _, x := range []struct {
		name string
		b    string
		code api.Errno
	}{
		{"a long frame, and its type", in(cast, 99, strings.Repeat("x", 1501)), api.ErrKind},
		{"a long frame, and its packet", in(cast, 0x0800, strings.Repeat("x", 1501)), api.ErrLong},
		{"a packet that is cut, and from a group", four(fromGroup)[:40], api.ErrEnd},
		{"the sum of a packet that is to a host", unsummed(in(cast, 0x0800, toHost.bytes())), api.ErrSum},
		{"the sum, and from a group", unsummed(four(fromGroup)), api.ErrSum},
		{"the sum, and another address of Ethernet", unsummed(in(cast, 0x0800, bad4.bytes())), api.ErrSum},
		{"from a group, and to a host", four(groupToHost), api.ErrForm},
		{"from a group, and another address of Ethernet", in(cast, 0x0800, fromGroup.bytes()), api.ErrForm},
		{"to a host, and another address of Ethernet", in(cast, 0x0800, toHost.bytes()), api.OK},
		{"another address of Ethernet, and the sum of a message", in(cast, 0x0800, bad4.bytes()), api.ErrForm},
		{"another address of Ethernet, and no whole message", in(cast, 0x0800, packetParts{from: host4(), to: group4(), proto: 2, body: "x"}.bytes()), api.ErrForm},
		{"the sum of a message, its kind, and its hops", four(unsealed), api.ErrSum},
		{"the kind of a message, and its hops", four(kindless), api.ErrKind},
		{"no whole message, and its hops", four(packetParts{from: host4(), to: group4(), proto: 2, hop: 7, body: "x"}), api.ErrEnd},
		{"too many records, and no alert", four(packetParts{from: host4(), to: group4(), proto: 2, hop: 1, body: sealed4("\x22\x00\x00\x00\x00\x00\x00\x41")}), api.ErrLong},
		{"hops, and to somebody else", four(packetParts{from: host4(), to: group4(), proto: 2, hop: 9, body: bodyOf(talks4()[5].talk, host4(), group4())}), api.ErrForm},
		{"the sum of a message from afar", framed(10, packetParts{from: host6(), to: group6(), proto: 58, hop: 9, body: "\x83\x00\x00\x00\x00\x00\x00\x00"}), api.ErrSum},
		{"no whole message from afar", framed(10, packetParts{from: host6(), to: group6(), proto: 58, hop: 9, body: "\x83"}), api.ErrEnd},
	} {
		if x.code == api.OK {
			well(t, x.name, x.b, nothing(10))
		} else {
			badly(t, x.name, x.b, x.code)
		}
	}
}

// TestReadNewMemory is for the rule 'Memory': no two lists of what is read share anything.
func TestReadNewMemory(t *testing.T) {
	for _, x := range samples() {
		b := written(x.said)
		got, _ := Read(b)
		lists := [][]api.Addr{got.Talk.Sources}
		for _, r := range got.Talk.Records {
			lists = append(lists, r.Sources)
		}
		for i, list := range lists {
			for k := range list[:cap(list)] {
				list[:cap(list)][k] = ill(none4(), i%16)
			}
		}
		for i, list := range lists {
			for k := range list {
				if list[k] != ill(none4(), i%16) {
					t.Errorf("%s: list %d shares with another", x.name, i)
				}
			}
		}
		well(t, x.name+" a second time", b, x.said)
	}
}
