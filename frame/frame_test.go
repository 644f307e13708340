package frame

import (
	"math"
	"slices"
	"strings"
	"testing"

	"acequia/addr"
	"acequia/api"
	"acequia/igmp"
	"acequia/mld"
)

// named is contents of a frame, and what is special about them.
type named struct {
	name string
	said api.Said
}

// at is the address that the text s stands for.
func at(s string) api.Addr {
	a, err := addr.Parse(s)
	if err != api.OK {
		panic(s)
	}
	return a
}

// group4 and group6 are groups; host4 and host6 send data, and link6 messages of MLD; none4 and none6 are zero.
func group4() api.Addr { return at("239.129.2.3") }
func group6() api.Addr { return at("ff1e::8102:304") }
func host4() api.Addr  { return at("10.0.0.9") }
func host6() api.Addr  { return at("2001:db8::9") }
func link6() api.Addr  { return at("fe80::1:2") }
func none4() api.Addr  { return api.Addr{} }
func none6() api.Addr  { return api.Addr{V6: true} }

// ill is an address of IPv4 that is not good: something stands behind its four bytes.
func ill(a api.Addr, place int) api.Addr {
	a.B[place] = 1
	return a
}

// turned is a with V6 as it was not.
func turned(a api.Addr) api.Addr {
	a.V6 = !a.V6
	return a
}

// destined is a message, what is special about it, and where it goes.
type destined struct {
	name string
	talk api.Talk
	to   api.Addr
}

// talks4 are messages of IGMP of each version and kind.
func talks4() []destined {
	g := group4()
	record := api.Record{Kind: api.IsEx, Group: g, Sources: []api.Addr{host4(), at("10.0.0.8")}}
	return []destined{
		{"query 1", api.Talk{Version: 1, Kind: api.TQuery}, at("224.0.0.1")},
		{"report 1", api.Talk{Version: 1, Kind: api.TReport, Group: g}, g},
		{"query 2 of all", api.Talk{Version: 2, Kind: api.TQuery, Resp: 100}, at("224.0.0.1")},
		{"query 2", api.Talk{Version: 2, Kind: api.TQuery, Resp: 1, Group: g}, g},
		{"report 2", api.Talk{Version: 2, Kind: api.TReport, Group: g}, g},
		{"leave 2", api.Talk{Version: 2, Kind: api.TLeave, Group: g}, at("224.0.0.2")},
		{"query 3 of all", api.Talk{Version: 3, Kind: api.TQuery, Resp: 100, Robust: 2, Every: 120}, at("224.0.0.1")},
		{"query 3", api.Talk{Version: 3, Kind: api.TQuery, Resp: 248, Group: g, Quiet: true, Robust: 7, Every: 31744, Sources: []api.Addr{host4()}}, g},
		{"report 3", api.Talk{Version: 3, Kind: api.TReport, Records: []api.Record{record, {Kind: api.Block, Group: at("232.1.1.1")}}}, at("224.0.0.22")},
		{"report 3 of nothing", api.Talk{Version: 3, Kind: api.TReport}, at("224.0.0.22")},
		{"report 2 of all nodes", api.Talk{Version: 2, Kind: api.TReport, Group: at("224.0.0.1")}, at("224.0.0.1")},
		{"leave of all routers", api.Talk{Version: 2, Kind: api.TLeave, Group: at("224.0.0.2")}, at("224.0.0.2")},
		{"query 2 of all routers", api.Talk{Version: 2, Kind: api.TQuery, Resp: 5, Group: at("224.0.0.2")}, at("224.0.0.2")},
	}
}

// talks6 are messages of MLD of each version and kind.
func talks6() []destined {
	g, all := group6(), none6()
	record := api.Record{Kind: api.ToEx, Group: g, Sources: []api.Addr{host6()}}
	return []destined{
		{"query 1 of all", api.Talk{V6: true, Version: 1, Kind: api.TQuery, Resp: 10000, Group: all}, at("ff02::1")},
		{"query 1", api.Talk{V6: true, Version: 1, Kind: api.TQuery, Group: g}, g},
		{"report 1", api.Talk{V6: true, Version: 1, Kind: api.TReport, Group: g}, g},
		{"leave 1", api.Talk{V6: true, Version: 1, Kind: api.TLeave, Group: g}, at("ff02::2")},
		{"query 2 of all", api.Talk{V6: true, Version: 2, Kind: api.TQuery, Resp: 10000, Group: all, Robust: 2, Every: 125}, at("ff02::1")},
		{"query 2", api.Talk{V6: true, Version: 2, Kind: api.TQuery, Resp: 32768, Group: g, Quiet: true, Sources: []api.Addr{host6(), link6()}}, g},
		{"report 2", api.Talk{V6: true, Version: 2, Kind: api.TReport, Records: []api.Record{record, {Kind: api.IsIn, Group: at("ff35::1")}}}, at("ff02::16")},
		{"report 2 of nothing", api.Talk{V6: true, Version: 2, Kind: api.TReport}, at("ff02::16")},
		{"report 1 of all nodes", api.Talk{V6: true, Version: 1, Kind: api.TReport, Group: at("ff02::1")}, at("ff02::1")},
		{"leave of all routers", api.Talk{V6: true, Version: 1, Kind: api.TLeave, Group: at("ff02::2")}, at("ff02::2")},
	}
}

// badTalks are messages that are not good.
func badTalks() []named {
	var out []named
	add := func(name string, t api.Talk) { out = append(out, named{name, api.Said{Talk: t}}) }
	add("nothing", api.Talk{})
	add("nothing but V6", api.Talk{V6: true})
	add("a query of another kind", api.Talk{Version: 2, Kind: 4, Resp: 5})
	add("no version 3 with V6", api.Talk{V6: true, Version: 3, Kind: api.TReport})
	add("a leave of version 3", api.Talk{Version: 3, Kind: api.TLeave, Group: group4()})
	add("a leave of version 1", api.Talk{Version: 1, Kind: api.TLeave, Group: group4()})
	add("a leave of version 2 with V6", api.Talk{V6: true, Version: 2, Kind: api.TLeave, Group: group6()})
	add("a report of no group", api.Talk{Version: 2, Kind: api.TReport})
	add("a report of no group with V6", api.Talk{V6: true, Version: 1, Kind: api.TReport, Group: none6()})
	add("a report of a host", api.Talk{Version: 2, Kind: api.TReport, Group: host4()})
	add("a leave of a group of IPv6", api.Talk{Version: 2, Kind: api.TLeave, Group: group6()})
	add("a leave of a group of IPv4", api.Talk{V6: true, Version: 1, Kind: api.TLeave, Group: group4()})
	add("a query of a host", api.Talk{Version: 2, Kind: api.TQuery, Resp: 5, Group: host4()})
	add("a query of all with zero of IPv4", api.Talk{V6: true, Version: 1, Kind: api.TQuery})
	add("a query of version 2 without a Resp", api.Talk{Version: 2, Kind: api.TQuery, Group: group4()})
	add("an ill record", api.Talk{Version: 3, Kind: api.TReport, Records: []api.Record{{Kind: 7, Group: group4()}}})
	for _, x := range append(talks4(), talks6()...) {
		x.talk.V6 = !x.talk.V6
		add(x.name+" with V6 turned", x.talk)
		x.talk.V6 = !x.talk.V6
		x.talk.Robust = 8
		add(x.name+" too robust", x.talk)
	}
	return out
}

// TestDest is for P10.1: each version and kind, for all groups and for one.
func TestDest(t *testing.T) {
	for _, x := range append(talks4(), talks6()...) {
		if got, ok := Dest(x.talk); got != x.to || !ok {
			t.Errorf("%s: %s, %v, not %s", x.name, addr.Print(got), ok, addr.Print(x.to))
		}
	}
}

// TestDestOfGroups is for P10.1: whichever group it is, messages of one group go there, and others don't.
func TestDestOfGroups(t *testing.T) {
	groups := []string{"224.0.0.0", "224.0.0.1", "224.0.0.22", "224.0.1.0", "232.0.0.1", "239.255.255.255", "ff00::", "ff02::1", "ff02::16", "ff05::1:3", "ffff:ffff:ffff:ffff:ffff:ffff:ffff:ffff"}
	for _, s := range groups {
		g := at(s)
		for _, x := range append(talks4(), talks6()...) {
			if x.talk.V6 != g.V6 || addr.Zero(x.talk.Group) {
				continue
			}
			want := g
			if x.talk.Kind == api.TLeave {
				want = x.to
			}
			x.talk.Group = g
			if got, ok := Dest(x.talk); got != want || !ok {
				t.Errorf("%s of %s: %s, %v, not %s", x.name, s, addr.Print(got), ok, addr.Print(want))
			}
		}
	}
}

// TestDestOfBad is for P10.1: messages that are not good go nowhere.
func TestDestOfBad(t *testing.T) {
	for _, x := range badTalks() {
		if got, ok := Dest(x.said.Talk); got != (api.Addr{}) || ok {
			t.Errorf("%s: %s, %v", x.name, addr.Print(got), ok)
		}
		if igmp.Good(x.said.Talk) || mld.Good(x.said.Talk) {
			t.Errorf("%s: good", x.name)
		}
	}
}

// telling is contents with a message: of MLD from an address on the link.
func telling(x destined) api.Said {
	from := host4()
	if x.talk.V6 {
		from = link6()
	}
	return api.Said{Kind: api.STalk, Vlan: 10, From: from, To: x.to, Talk: x.talk}
}

// data4 and data6 are contents with data.
func data4() api.Said {
	return api.Said{Kind: api.SData, Vlan: 10, From: host4(), To: group4(), Proto: 17, Hop: 64, Data: "some data"}
}
func data6() api.Said {
	return api.Said{Kind: api.SData, Vlan: 10, From: host6(), To: group6(), Proto: 17, Hop: 64, Data: "some data"}
}

// plain are contents of each kind.
func plain() []named {
	out := []named{{"data 4", data4()}, {"data 6", data6()}}
	for _, x := range talks4() {
		out = append(out, named{"igmp " + x.name, telling(x)})
	}
	for _, x := range talks6() {
		out = append(out, named{"mld " + x.name, telling(x)})
	}
	return out
}

// with is s after a change.
func with(s api.Said, change func(*api.Said)) api.Said {
	change(&s)
	return s
}

// body is data of that many bytes.
func body(size int) string {
	out := make([]byte, size)
	for i := range out {
		out[i] = byte(i*7 + i/256)
	}
	return string(out)
}

// samples are good contents: plain ones, and those at the edges.
func samples() []named {
	out := plain()
	for _, x := range plain() {
		add := func(name string, change func(*api.Said)) {
			out = append(out, named{x.name + name, with(x.said, change)})
		}
		for _, vlan := range []int{0, 1, 255, 256, 4093, 4094} {
			add(", vlan", func(s *api.Said) { s.Vlan = vlan })
		}
		for _, from := range senders(x.said) {
			add(" from "+addr.Print(from), func(s *api.Said) { s.From = from })
		}
		if x.said.Kind != api.SData {
			continue
		}
		for _, n := range []int{0, 1, 2, 3, 128, 254, 255} {
			add(", hop", func(s *api.Said) { s.Hop = n })
			if n != 2 && !x.said.To.V6 || n != 0 && x.said.To.V6 {
				add(", proto", func(s *api.Said) { s.Proto = n })
			}
		}
		for _, size := range []int{0, 1, 2, 255, 256, 1399, 1400} {
			add(", size", func(s *api.Said) { s.Data = body(size) })
		}
		for _, first := range []string{"", "\x00", "\x80", "\x81", "\x85", "\x86", "\x8e", "\x90", "\xff", "\x11", "\x16", "\x00\x82"} {
			add(", proto 58", func(s *api.Said) { s.Proto, s.Data = 58, first })
			add(", proto 58 and more", func(s *api.Said) { s.Proto, s.Data = 58, first+"and more" })
		}
		for _, first := range []string{"\x82", "\x83", "\x84", "\x8f"} {
			if !x.said.To.V6 {
				add(", proto 58", func(s *api.Said) { s.Proto, s.Data = 58, first+"and more" })
			}
			add(", like a message", func(s *api.Said) { s.Data = first + "and more" })
		}
		for _, to := range []string{"224.0.0.0", "224.0.0.1", "224.0.0.22", "232.1.2.3", "239.255.255.255", "ff00::", "ff02::1", "ff02::16", "ff35::8000:1", "ffff:ffff:ffff:ffff:ffff:ffff:ffff:ffff"} {
			if at(to).V6 == x.said.To.V6 {
				add(" to "+to, func(s *api.Said) { s.To = at(to) })
			}
		}
	}
	return append(out, largest()...)
}

// senders are addresses from which s may be.
func senders(s api.Said) []api.Addr {
	out := []api.Addr{none6(), at("::1"), host6(), at("fe7f:ffff::"), at("fec0::"), at("fe80::"), at("febf:ffff:ffff:ffff:ffff:ffff:ffff:ffff"), at("::ef01:203"), at("feff::")}
	switch {
	case !s.To.V6:
		out = []api.Addr{none4(), at("0.0.0.1"), at("127.0.0.1"), at("223.255.255.255"), at("240.0.0.0"), at("255.255.255.255"), at("254.128.0.1")}
	case s.Kind == api.STalk:
		out = []api.Addr{at("fe80::"), at("fe80::1"), at("fe81::1"), at("fe90:1::"), at("febf:ffff:ffff:ffff:ffff:ffff:ffff:ffff")}
		if s.Talk.Kind != api.TQuery {
			out = append(out, none6())
		}
	}
	return out
}

// largest are the largest messages.
func largest() []named {
	report4 := api.Talk{Version: 3, Kind: api.TReport}
	for range 5 {
		report4.Records = append(report4.Records, api.Record{Kind: api.ToIn, Group: group4(), Sources: slices.Repeat([]api.Addr{host4()}, 64)})
	}
	report4.Records = append(report4.Records, api.Record{Kind: api.ToIn, Group: group4(), Sources: slices.Repeat([]api.Addr{host4()}, 16)})
	report6 := api.Talk{V6: true, Version: 2, Kind: api.TReport}
	for _, count := range []int{64, 16, 1, 1} {
		report6.Records = append(report6.Records, api.Record{Kind: api.ToIn, Group: group6(), Sources: slices.Repeat([]api.Addr{host6()}, count)})
	}
	query6 := api.Talk{V6: true, Version: 2, Kind: api.TQuery, Group: group6(), Sources: slices.Repeat([]api.Addr{host6()}, 64)}
	query4 := api.Talk{Version: 3, Kind: api.TQuery, Group: group4(), Sources: slices.Repeat([]api.Addr{host4()}, 64)}
	return []named{
		{"largest report 3", telling(destined{talk: report4, to: at("224.0.0.22")})},
		{"largest report 2", telling(destined{talk: report6, to: at("ff02::16")})},
		{"largest query 3", telling(destined{talk: query4, to: group4()})},
		{"largest query 2", telling(destined{talk: query6, to: group6()})},
	}
}

// bad checks that s is not good, and that there is no frame of it.
func bad(t *testing.T, name string, s api.Said) {
	t.Helper()
	if Good(s) {
		t.Errorf("%s: %+v is good", name, s)
	}
	if b, err := Write(s, mac()); b != "" || err != api.ErrForm {
		t.Errorf("%s: %+v is written as %x, %v", name, s, b, err)
	}
}

// TestGood is for P10.2: all samples.
func TestGood(t *testing.T) {
	for _, x := range samples() {
		if !Good(x.said) {
			t.Errorf("%s: %+v is not good", x.name, x.said)
		}
	}
}

// TestBadVlan is for P10.2: numbers of segments beyond the bounds.
func TestBadVlan(t *testing.T) {
	for _, x := range plain() {
		for _, vlan := range []int{-1, -4096, 4095, 4096, 4097, 8191, 65536, math.MinInt, math.MaxInt} {
			bad(t, x.name, with(x.said, func(s *api.Said) { s.Vlan = vlan }))
		}
	}
}

// TestBadFrom is for P10.2: senders that are not good, groups, of the other kind, or, of a message, not on the link.
func TestBadFrom(t *testing.T) {
	wrong4 := []api.Addr{at("224.0.0.0"), at("224.0.0.1"), group4(), at("239.255.255.255"), none6(), host6(), link6(), group6(), turned(host4()), turned(none4())}
	for place := 4; place < 16; place++ {
		wrong4 = append(wrong4, ill(host4(), place), ill(none4(), place))
	}
	wrong6 := []api.Addr{at("ff00::"), at("ff02::1"), group6(), at("ffff:ffff:ffff:ffff:ffff:ffff:ffff:ffff"), none4(), host4(), group4(), turned(link6()), turned(host6()), ill(none4(), 15), at("254.128.0.1")}
	far6 := []api.Addr{host6(), at("::1"), at("fe7f:ffff:ffff:ffff:ffff:ffff:ffff:ffff"), at("fec0::"), at("fe00::1"), at("fe40::1"), at("feff::1"), at("fd80::1"), at("7e80::1"), at("80fe::1"), at("0:fe80::1"), at("a:0:fe80::")}
	for _, x := range plain() {
		list := wrong4
		if x.said.To.V6 {
			list = wrong6
			if x.said.Kind == api.STalk {
				list = append(slices.Clone(wrong6), far6...)
			}
			if x.said.Kind == api.STalk && x.said.Talk.Kind == api.TQuery {
				list = append(list, none6())
			}
		}
		for _, from := range list {
			bad(t, x.name+" from "+addr.Print(from), with(x.said, func(s *api.Said) { s.From = from }))
		}
	}
}

// TestBadTalk is for P10.2: messages that are not good, whoever they are to.
func TestBadTalk(t *testing.T) {
	dests := []api.Addr{none4(), none6(), group4(), group6(), at("224.0.0.1"), at("224.0.0.2"), at("224.0.0.22"), at("ff02::1"), at("ff02::2"), at("ff02::16")}
	for _, x := range badTalks() {
		for _, to := range append(dests, x.said.Talk.Group) {
			for _, from := range []api.Addr{host4(), link6(), none4(), none6()} {
				bad(t, x.name, api.Said{Kind: api.STalk, From: from, To: to, Talk: x.said.Talk})
			}
		}
	}
}

// TestBadTo is for P10.2: messages that are to somebody else, and data that is to no group.
func TestBadTo(t *testing.T) {
	dests := []api.Addr{none4(), none6(), host4(), host6(), link6(), group4(), group6(), at("224.0.0.1"), at("224.0.0.2"), at("224.0.0.22"), at("ff02::1"), at("ff02::2"), at("ff02::16"),
		at("239.1.2.3"), at("224.0.0.16"), at("ff02::22"), at("ff01::1"), at("ff05::2"), at("ff02:1::16"), turned(group4()), turned(group6()), ill(group4(), 4), ill(at("224.0.0.1"), 15), ill(at("224.0.0.22"), 9)}
	for _, x := range append(talks4(), talks6()...) {
		for _, to := range dests {
			if to != x.to {
				bad(t, x.name+" to "+addr.Print(to), with(telling(x), func(s *api.Said) { s.To = to }))
			}
		}
		bad(t, x.name+" to the other kind", with(telling(x), func(s *api.Said) { s.To = turned(x.to) }))
	}
	for _, to := range []api.Addr{none4(), none6(), host4(), host6(), link6(), at("223.255.255.255"), at("240.0.0.0"), at("255.255.255.255"), at("feff:ffff::"), at("::ff00"), turned(group4()), turned(group6())} {
		bad(t, "data 4 to "+addr.Print(to), with(data4(), func(s *api.Said) { s.To = to }))
		bad(t, "data 6 to "+addr.Print(to), with(data6(), func(s *api.Said) { s.To = to }))
	}
	for place := 4; place < 16; place++ {
		bad(t, "data to an ill group", with(data4(), func(s *api.Said) { s.To = ill(group4(), place) }))
	}
	bad(t, "data to the other kind", with(data4(), func(s *api.Said) { s.To = group6() }))
	bad(t, "data to the other kind", with(data6(), func(s *api.Said) { s.To = group4() }))
}

// TestBadData is for P10.2: protocols and hops beyond the bounds, protocols of messages, and too much data.
func TestBadData(t *testing.T) {
	for _, x := range []api.Said{data4(), data6()} {
		for _, n := range []int{-1, -254, 256, 257, 258, 314, 512, math.MinInt, math.MaxInt} {
			bad(t, "proto", with(x, func(s *api.Said) { s.Proto = n }))
			bad(t, "hop", with(x, func(s *api.Said) { s.Hop = n }))
		}
		for _, size := range []int{1401, 1402, 1500, 2000, 70000} {
			bad(t, "size", with(x, func(s *api.Said) { s.Data = body(size) }))
		}
	}
	for _, data := range []string{"", "\x11", "\x82", "some data"} {
		bad(t, "proto 2", with(data4(), func(s *api.Said) { s.Proto, s.Data = 2, data }))
		bad(t, "proto 0 with V6", with(data6(), func(s *api.Said) { s.Proto, s.Data = 0, data }))
	}
	for _, first := range []string{"\x82", "\x83", "\x84", "\x8f"} {
		for _, behind := range []string{"", "\x00", "and more", strings.Repeat("\x00", 30)} {
			bad(t, "proto 58 with V6", with(data6(), func(s *api.Said) { s.Proto, s.Data = 58, first+behind }))
		}
	}
}

// TestBadFields is for P10.2: each field that is not mentioned for a kind, set to something other than zero.
func TestBadFields(t *testing.T) {
	talk := func(change func(*api.Talk)) func(*api.Said) {
		return func(s *api.Said) { change(&s.Talk) }
	}
	ofTalk := []func(*api.Said){
		func(s *api.Said) { s.Proto = 1 }, func(s *api.Said) { s.Proto = -1 }, func(s *api.Said) { s.Proto = 2 }, func(s *api.Said) { s.Proto = 58 },
		func(s *api.Said) { s.Hop = 1 }, func(s *api.Said) { s.Hop = -1 }, func(s *api.Said) { s.Data = "x" }, func(s *api.Said) { s.Data = "\x00" },
	}
	ofData := []func(*api.Said){
		talk(func(t *api.Talk) { t.V6 = true }), talk(func(t *api.Talk) { t.Version = 1 }), talk(func(t *api.Talk) { t.Kind = api.TQuery }), talk(func(t *api.Talk) { t.Resp = 1 }),
		talk(func(t *api.Talk) { t.Group = group4() }), talk(func(t *api.Talk) { t.Group = none6() }), talk(func(t *api.Talk) { t.Group = ill(none4(), 15) }), talk(func(t *api.Talk) { t.Quiet = true }),
		talk(func(t *api.Talk) { t.Robust = -1 }), talk(func(t *api.Talk) { t.Every = 1 }), talk(func(t *api.Talk) { t.Sources = make([]api.Addr, 1) }), talk(func(t *api.Talk) { t.Records = make([]api.Record, 1) }),
		func(s *api.Said) { s.Talk = talks4()[4].talk }, func(s *api.Said) { s.Talk = talks6()[2].talk },
	}
	for _, x := range plain() {
		list := ofData
		if x.said.Kind == api.STalk {
			list = ofTalk
		}
		for _, change := range list {
			bad(t, x.name, with(x.said, change))
		}
		// Lists that are empty are as good as none.
		empty := x.said
		empty.Talk.Sources = append([]api.Addr{}, empty.Talk.Sources...)
		empty.Talk.Records = append([]api.Record{}, empty.Talk.Records...)
		if !Good(empty) {
			t.Errorf("%s: lists that are empty, but not nil, are not good", x.name)
		}
	}
}

// TestBadKinds is for P10.2: other contents, and kinds that do not exist.
func TestBadKinds(t *testing.T) {
	for _, kind := range []int{api.SOther, -1, 3, 4, 5, 255, 256, 257, 258, math.MinInt, math.MaxInt} {
		for _, x := range samples() {
			bad(t, x.name, with(x.said, func(s *api.Said) { s.Kind = kind }))
		}
		bad(t, "nothing", api.Said{Kind: kind})
		bad(t, "nothing but a segment", api.Said{Kind: kind, Vlan: 10})
	}
	for _, x := range plain() {
		bad(t, x.name+" as the other kind", with(x.said, func(s *api.Said) { s.Kind = api.STalk + api.SData - s.Kind }))
	}
	for _, kind := range []int{api.STalk, api.SData} {
		bad(t, "nothing", api.Said{Kind: kind})
		bad(t, "nothing", api.Said{Kind: kind, From: none6(), To: none6()})
	}
}

// copied is s with lists of its own, which have some capacity to spare.
func copied(s api.Said) api.Said {
	s.Talk.Sources = append(make([]api.Addr, 0, len(s.Talk.Sources)+2), s.Talk.Sources...)
	list := make([]api.Record, 0, len(s.Talk.Records)+2)
	for _, r := range s.Talk.Records {
		r.Sources = append(make([]api.Addr, 0, len(r.Sources)+2), r.Sources...)
		list = append(list, r)
	}
	s.Talk.Records = list
	return s
}

// full is a message with something in every field.
func full() api.Talk {
	return api.Talk{V6: true, Version: 2, Kind: api.TReport, Resp: 1, Group: group6(), Quiet: true, Robust: 2, Every: 125, Sources: []api.Addr{host6(), link6()},
		Records: []api.Record{{Kind: api.IsEx, Group: group6(), Sources: []api.Addr{host6(), link6()}}, {Kind: api.ToEx, Group: group6()}}}
}

// TestSame is for P10.4: each field differs alone, whether the contents are good or not.
func TestSame(t *testing.T) {
	whole := api.Said{Kind: api.STalk, Vlan: 10, From: host6(), To: group6(), Talk: full(), Proto: 17, Hop: 64, Data: "some data"}
	changes := []func(*api.Said){
		func(s *api.Said) { s.Kind++ }, func(s *api.Said) { s.Vlan++ }, func(s *api.Said) { s.From.V6 = !s.From.V6 }, func(s *api.Said) { s.From.B[0]++ }, func(s *api.Said) { s.From.B[15]++ },
		func(s *api.Said) { s.To.V6 = !s.To.V6 }, func(s *api.Said) { s.To.B[0]++ }, func(s *api.Said) { s.To.B[15]++ }, func(s *api.Said) { s.Proto++ }, func(s *api.Said) { s.Hop++ },
		func(s *api.Said) { s.Data += "x" }, func(s *api.Said) { s.Data += "\x00" }, func(s *api.Said) { s.Data = "Some data" },
		func(s *api.Said) { s.Talk.V6 = !s.Talk.V6 }, func(s *api.Said) { s.Talk.Version++ }, func(s *api.Said) { s.Talk.Kind++ }, func(s *api.Said) { s.Talk.Resp++ },
		func(s *api.Said) { s.Talk.Group.V6 = !s.Talk.Group.V6 }, func(s *api.Said) { s.Talk.Group.B[15]++ }, func(s *api.Said) { s.Talk.Quiet = !s.Talk.Quiet },
		func(s *api.Said) { s.Talk.Robust++ }, func(s *api.Said) { s.Talk.Every++ }, func(s *api.Said) { s.Talk.Sources = append(s.Talk.Sources, host6()) },
		func(s *api.Said) { s.Talk.Records = append(s.Talk.Records, api.Record{}) },
	}
	nested := []func(*api.Said){
		func(s *api.Said) { s.Talk.Sources[0], s.Talk.Sources[1] = s.Talk.Sources[1], s.Talk.Sources[0] }, func(s *api.Said) { s.Talk.Sources[1].B[7]++ }, func(s *api.Said) { s.Talk.Sources = nil },
		func(s *api.Said) { s.Talk.Records[0].Kind++ }, func(s *api.Said) { s.Talk.Records[1].Group.B[9]++ }, func(s *api.Said) { s.Talk.Records[0].Sources[1].B[9]++ }, func(s *api.Said) { s.Talk.Records = s.Talk.Records[:1] },
		func(s *api.Said) { s.Talk.Records[0], s.Talk.Records[1] = s.Talk.Records[1], s.Talk.Records[0] }, func(s *api.Said) { s.Talk.Records[1].Sources = []api.Addr{host6()} },
	}
	starts := []api.Said{{}, whole}
	for _, x := range samples() {
		starts = append(starts, x.said)
	}
	for i, x := range starts {
		if !Same(x, x) || !Same(x, copied(x)) || !Same(copied(x), x) {
			t.Errorf("%+v is not the same as itself", x)
		}
		for k, change := range changes {
			if y := with(copied(x), change); Same(x, y) || Same(y, x) {
				t.Errorf("change %d to %+v makes no difference", k, x)
			}
		}
		if i != 1 {
			continue
		}
		for k, change := range nested {
			if y := with(copied(x), change); Same(x, y) || Same(y, x) {
				t.Errorf("nested change %d to %+v makes no difference", k, x)
			}
		}
	}
}

// TestArgumentsStay is for the rule 'Memory': what is handed in is not changed, the spare capacity of lists included.
func TestArgumentsStay(t *testing.T) {
	for _, x := range samples() {
		given := copied(x.said)
		Dest(given.Talk)
		Good(given)
		Write(given, mac())
		Same(given, given)
		if !Same(given, x.said) {
			t.Errorf("%s: the argument was changed", x.name)
		}
		spare := [][]api.Addr{given.Talk.Sources}
		for i, r := range given.Talk.Records[:cap(given.Talk.Records)] {
			if i < len(given.Talk.Records) {
				spare = append(spare, r.Sources)
			} else if r.Kind != 0 || r.Group != (api.Addr{}) || r.Sources != nil {
				t.Errorf("%s: the spare records were changed", x.name)
			}
		}
		for _, list := range spare {
			if !slices.Equal(list[len(list):cap(list)], make([]api.Addr, cap(list)-len(list))) {
				t.Errorf("%s: spare sources were changed", x.name)
			}
		}
	}
}
