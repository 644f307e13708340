package mld

import (
	"math"
	"slices"
	"strings"
	"testing"

	"acequia/addr"
	"acequia/api"
	"acequia/igmp"
)

// named is a message, and what is special about it.
type named struct {
	name string
	talk api.Talk
}

// at is the address that the text s stands for.
func at(s string) api.Addr {
	a, err := addr.Parse(s)
	if err != api.OK {
		panic(s)
	}
	return a
}

// group is a group, and next is another one; host is a good source; none is the zero address; router and nodes are those between which messages are, and other is somebody else.
func group() api.Addr  { return at("ff1e::8102:304") }
func next() api.Addr   { return at("ff02::fb") }
func host() api.Addr   { return at("2001:db8::9") }
func none() api.Addr   { return api.Addr{V6: true} }
func router() api.Addr { return at("fe80::1:2") }
func nodes() api.Addr  { return at("ff02::1") }
func other() api.Addr  { return at("fe80::1:3") }

// four is a with V6 not set.
func four(a api.Addr) api.Addr {
	a.V6 = false
	return a
}

// with6 is an address of IPv6 of these bytes, the others 0.
func with6(first, second, last byte) api.Addr {
	a := none()
	a.B[0], a.B[1], a.B[15] = first, second, last
	return a
}

// sourceList is that many sources, no two the same.
func sourceList(count int) []api.Addr {
	var out []api.Addr
	for i := range count {
		out = append(out, with6(byte(i), byte(count), byte(255-i)))
	}
	return out
}

// holds is a record with that many sources.
func holds(kind int, group api.Addr, count int) api.Record {
	return api.Record{Kind: kind, Group: group, Sources: sourceList(count)}
}

// recordList are that many records of all kinds without sources.
func recordList(count int) []api.Record {
	var out []api.Record
	for i := range count {
		out = append(out, holds(1+i%6, with6(255, byte(i), byte(count)), 0))
	}
	return out
}

// query1 and the following are a good message of each shape, with something in every field that it has.
func query1() api.Talk {
	return api.Talk{V6: true, Version: 1, Kind: api.TQuery, Resp: 10000, Group: group()}
}
func report1() api.Talk {
	return api.Talk{V6: true, Version: 1, Kind: api.TReport, Group: group()}
}
func leave1() api.Talk { return api.Talk{V6: true, Version: 1, Kind: api.TLeave, Group: group()} }
func query2() api.Talk {
	return api.Talk{V6: true, Version: 2, Kind: api.TQuery, Resp: 10000, Group: group(), Quiet: true, Robust: 2, Every: 125, Sources: sourceList(2)}
}
func report2() api.Talk {
	return api.Talk{V6: true, Version: 2, Kind: api.TReport, Records: []api.Record{holds(api.IsEx, group(), 2), holds(api.Block, next(), 1)}}
}

// shapes are a message of each shape.
func shapes() []named {
	return []named{{"query 1", query1()}, {"report 1", report1()}, {"leave 1", leave1()}, {"query 2", query2()}, {"report 2", report2()}}
}

// with is t after a change.
func with(t api.Talk, change func(*api.Talk)) api.Talk {
	change(&t)
	return t
}

// sized is a report of Version 2 of that many bytes: 8, and 20 for each record, and 16 for each source.
func sized(t *testing.T, bytes int) api.Talk {
	t.Helper()
	for count := 1; count <= 64; count++ {
		left := bytes - 8 - 20*count
		if left < 0 || left%16 != 0 || left/16 > 64*count {
			continue
		}
		out := api.Talk{V6: true, Version: 2, Kind: api.TReport}
		for left /= 16; len(out.Records) < count; left -= min(left, 64) {
			out.Records = append(out.Records, holds(api.IsIn, group(), min(left, 64)))
		}
		return out
	}
	t.Fatalf("no report of %d bytes", bytes)
	return api.Talk{}
}

// samples are good messages: those of all shapes, and those at the edges.
func samples() []named {
	out := shapes()
	add := func(name string, t api.Talk) { out = append(out, named{name, t}) }
	for _, resp := range []int{0, 1, 255, 256, 32767, 32768, 32769, 65534, 65535} {
		add("resp of 1", with(query1(), func(t *api.Talk) { t.Resp = resp }))
	}
	for _, n := range []int{0, 1, 255, 256, 32767, 32768, 32776, 65520, 65536, 65552, 8386560, 8387584} {
		add("resp of 2", with(query2(), func(t *api.Talk) { t.Resp = n }))
	}
	for _, n := range []int{0, 1, 127, 128, 136, 248, 256, 272, 496, 512, 16384, 30720, 31744} {
		add("every", with(query2(), func(t *api.Talk) { t.Every = n }))
	}
	for robust := range 8 {
		add("robust", with(query2(), func(t *api.Talk) { t.Robust = robust }))
		add("robust, not quiet", with(query2(), func(t *api.Talk) { t.Robust, t.Quiet = robust, false }))
	}
	add("query 1 of all", with(query1(), func(t *api.Talk) { t.Group = none() }))
	add("query 1 with zeros alone", api.Talk{V6: true, Version: 1, Kind: api.TQuery, Group: none()})
	add("query 2 of all", with(query2(), func(t *api.Talk) { t.Group, t.Sources = none(), nil }))
	add("query 2 with zeros alone", api.Talk{V6: true, Version: 2, Kind: api.TQuery, Group: none()})
	for _, g := range []api.Addr{with6(255, 0, 0), nodes(), at("ff3e::8000:1"), at("ffff:ffff:ffff:ffff:ffff:ffff:ffff:ffff")} {
		for _, x := range []api.Talk{query1(), report1(), leave1(), query2()} {
			x.Group = g
			add("group", x)
		}
		add("group of a record", with(report2(), func(t *api.Talk) { t.Records = []api.Record{holds(api.ToIn, g, 3)} }))
	}
	for _, count := range []int{0, 1, 63, 64} {
		add("sources", with(query2(), func(t *api.Talk) { t.Sources = sourceList(count) }))
		add("sources of a record", with(report2(), func(t *api.Talk) { t.Records[1].Sources = sourceList(count) }))
		add("records", with(report2(), func(t *api.Talk) { t.Records = recordList(count) }))
	}
	// Whatever is of IPv6 may be a source, and the same one may stand there twice.
	odd := []api.Addr{none(), group(), at("ffff:ffff:ffff:ffff:ffff:ffff:ffff:ffff"), host(), host()}
	add("odd sources", with(query2(), func(t *api.Talk) { t.Sources = odd }))
	add("odd sources of a record", with(report2(), func(t *api.Talk) { t.Records[0].Sources = odd }))
	for kind := 1; kind <= 6; kind++ {
		add("kind", with(report2(), func(t *api.Talk) { t.Records[1].Kind = kind }))
	}
	return out
}

// wrongGroups are addresses that are no group of IPv6, nor zero of IPv6.
func wrongGroups() []api.Addr {
	return []api.Addr{{}, addr.Ip4(239, 1, 2, 3), four(group()), four(nodes()), host(), other(), with6(254, 255, 255), with6(0, 255, 0), with6(0, 0, 1),
		at("::ff00"), at("::ffff:ef01:203"), four(with6(0, 0, 1)), at("feff:ffff:ffff:ffff:ffff:ffff:ffff:ffff")}
}

// wrongSources are sources that no message may bear.
func wrongSources() []api.Addr {
	return []api.Addr{{}, addr.Ip4(10, 0, 0, 9), four(host()), four(group()), addr.Ip4(239, 1, 2, 3)}
}

// bad checks that t is not good, and that it has no bytes.
func bad(t *testing.T, name string, talk api.Talk) {
	t.Helper()
	if Good(talk) {
		t.Errorf("%s: %+v is good", name, talk)
	}
	if s, err := Write(talk, router(), nodes()); s != "" || err != api.ErrForm {
		t.Errorf("%s: %+v is written as %x, %v", name, talk, s, err)
	}
}

// TestGood is for P9.1: all samples.
func TestGood(t *testing.T) {
	for _, x := range samples() {
		if !Good(x.talk) {
			t.Errorf("%s: %+v is not good", x.name, x.talk)
		}
	}
	for _, bytes := range []int{28, 44, 1392, 1396, 1400} {
		if !Good(sized(t, bytes)) {
			t.Errorf("%d bytes are not good", bytes)
		}
	}
}

// TestBadNumbers is for P9.1: Resp, Every and Robust beyond their bounds, and times that are not exact.
func TestBadNumbers(t *testing.T) {
	for _, n := range []int{-1, 65536, 65537, 131072, 8387584, -65536, math.MinInt, math.MaxInt} {
		bad(t, "resp of 1", with(query1(), func(t *api.Talk) { t.Resp = n }))
	}
	for _, n := range []int{-1, -32768, 32769, 32775, 32777, 65519, 65521, 65535, 65537, 65551, 8387583, 8387585, 8388608, math.MinInt, math.MaxInt} {
		bad(t, "resp of 2", with(query2(), func(t *api.Talk) { t.Resp = n }))
	}
	for _, n := range []int{-1, -128, 129, 135, 137, 247, 249, 255, 257, 271, 16385, 31743, 31745, 32768, math.MinInt, math.MaxInt} {
		bad(t, "every", with(query2(), func(t *api.Talk) { t.Every = n }))
	}
	for _, n := range []int{-1, 8, 9, 15, 16, math.MinInt, math.MaxInt} {
		bad(t, "robust", with(query2(), func(t *api.Talk) { t.Robust = n }))
	}
}

// TestBadGroups is for P9.1: addresses that are no groups, wherever a group is asked for.
func TestBadGroups(t *testing.T) {
	for _, g := range append(wrongGroups(), none()) {
		for _, x := range []api.Talk{report1(), leave1()} {
			x.Group = g
			bad(t, "group", x)
		}
		bad(t, "group of a record", with(report2(), func(t *api.Talk) { t.Records[0].Group = g }))
		bad(t, "group of the last record", with(report2(), func(t *api.Talk) { t.Records[1].Group = g }))
		if g != none() {
			bad(t, "group", with(query1(), func(t *api.Talk) { t.Group = g }))
			bad(t, "group", with(query2(), func(t *api.Talk) { t.Group, t.Sources = g, nil }))
		}
		if g != (api.Addr{}) {
			bad(t, "group of a report of version 2", with(report2(), func(t *api.Talk) { t.Group = g }))
		}
	}
	bad(t, "group of a report of version 2", with(report2(), func(t *api.Talk) { t.Group = group() }))
}

// TestBadSources is for P9.1: sources that are too many, wrong, or not of a group.
func TestBadSources(t *testing.T) {
	for _, count := range []int{65, 66, 128, 256, 300} {
		bad(t, "sources", with(query2(), func(t *api.Talk) { t.Sources = sourceList(count) }))
		bad(t, "sources of a record", with(report2(), func(t *api.Talk) { t.Records[0].Sources = sourceList(count) }))
		bad(t, "sources of the last record", with(report2(), func(t *api.Talk) { t.Records[1].Sources = sourceList(count) }))
	}
	for _, count := range []int{1, 2, 64, 65} {
		bad(t, "sources of all", with(query2(), func(t *api.Talk) { t.Group, t.Sources = none(), sourceList(count) }))
	}
	for _, a := range wrongSources() {
		for _, at := range []int{0, 1, 63} {
			list := sourceList(64)
			list[at] = a
			bad(t, "source", with(query2(), func(t *api.Talk) { t.Sources = list }))
			bad(t, "source of a record", with(report2(), func(t *api.Talk) { t.Records[0].Sources = list }))
			bad(t, "source of the last record", with(report2(), func(t *api.Talk) { t.Records[1].Sources = list }))
		}
	}
}

// TestBadRecords is for P9.1: records that are too many, of wrong kinds, and too long together.
func TestBadRecords(t *testing.T) {
	for _, count := range []int{65, 66, 128, 256, 300} {
		bad(t, "records", with(report2(), func(t *api.Talk) { t.Records = recordList(count) }))
	}
	for _, kind := range []int{0, 7, 8, -1, 255, 257, 258, math.MinInt, math.MaxInt} {
		for _, at := range []int{0, 1, 63} {
			list := recordList(64)
			list[at].Kind = kind
			bad(t, "kind", with(report2(), func(t *api.Talk) { t.Records = list }))
		}
	}
	for _, bytes := range []int{1404, 1408, 1412, 1416, 1420, 2000} {
		bad(t, "size", sized(t, bytes))
	}
	bad(t, "1416 bytes", with(sized(t, 1400), func(t *api.Talk) { t.Records[0].Sources = append(t.Records[0].Sources, host()) }))
	bad(t, "1420 bytes", with(sized(t, 1400), func(t *api.Talk) { t.Records = append(t.Records, holds(api.ToEx, group(), 0)) }))
	full := with(report2(), func(t *api.Talk) { t.Records = nil })
	for range 64 {
		full.Records = append(full.Records, holds(api.ToEx, group(), 64))
	}
	bad(t, "as many as there may be", full)
}

// field is one of a message's fields, and a change that sets it to something other than zero.
type field struct {
	name string
	set  func(*api.Talk)
}

// fields are all fields but V6, Version and Kind.
func fields() []field {
	return []field{
		{"Resp", func(t *api.Talk) { t.Resp = 1 }},
		{"Resp", func(t *api.Talk) { t.Resp = -1 }},
		{"Group", func(t *api.Talk) { t.Group = group() }},
		{"Group", func(t *api.Talk) { t.Group = none() }},
		{"Group", func(t *api.Talk) { t.Group = four(with6(0, 0, 1)) }},
		{"Quiet", func(t *api.Talk) { t.Quiet = true }},
		{"Robust", func(t *api.Talk) { t.Robust = 1 }},
		{"Robust", func(t *api.Talk) { t.Robust = -1 }},
		{"Every", func(t *api.Talk) { t.Every = 1 }},
		{"Every", func(t *api.Talk) { t.Every = -1 }},
		{"Sources", func(t *api.Talk) { t.Sources = sourceList(1) }},
		{"Sources", func(t *api.Talk) { t.Sources = make([]api.Addr, 1) }},
		{"Sources", func(t *api.Talk) { t.Sources = sourceList(65) }},
		{"Records", func(t *api.Talk) { t.Records = recordList(1) }},
		{"Records", func(t *api.Talk) { t.Records = make([]api.Record, 1) }},
		{"Records", func(t *api.Talk) { t.Records = recordList(65) }},
	}
}

// has are the fields of each shape.
func has() map[string]string {
	return map[string]string{"query 1": "Resp Group", "report 1": "Group", "leave 1": "Group",
		"query 2": "Resp Group Quiet Robust Every Sources", "report 2": "Records"}
}

// TestBadFields is for P9.1: each field that a message does not have, set to something other than zero, and V6 not set.
func TestBadFields(t *testing.T) {
	for _, x := range shapes() {
		for _, f := range fields() {
			if !slices.Contains(strings.Fields(has()[x.name]), f.name) {
				bad(t, x.name+" with "+f.name, with(x.talk, f.set))
			}
		}
		empty := x.talk
		empty.Sources = append([]api.Addr{}, empty.Sources...)
		empty.Records = append([]api.Record{}, empty.Records...)
		if !Good(empty) {
			t.Errorf("%s: lists that are empty, but not nil, are not good", x.name)
		}
	}
	for _, x := range samples() {
		bad(t, x.name+" without V6", with(x.talk, func(t *api.Talk) { t.V6 = false }))
	}
	// What is good as a message of IGMP is none of MLD, with V6 or without.
	g := addr.Ip4(239, 1, 2, 3)
	for _, x := range []api.Talk{{Version: 1, Kind: api.TQuery}, {Version: 2, Kind: api.TQuery, Resp: 100}, {Version: 1, Kind: api.TReport, Group: g}, {Version: 2, Kind: api.TReport, Group: g},
		{Version: 2, Kind: api.TLeave, Group: g}, {Version: 3, Kind: api.TQuery}, {Version: 3, Kind: api.TReport}} {
		if !igmp.Good(x) {
			t.Errorf("%+v is not good there", x)
		}
		bad(t, "igmp", x)
		bad(t, "igmp, with V6", with(x, func(t *api.Talk) { t.V6 = true }))
	}
}

// TestBadShapes is for P9.1: versions and kinds that do not exist, whatever the fields are.
func TestBadShapes(t *testing.T) {
	exists := map[shape]bool{}
	for _, x := range shapes() {
		exists[shape{x.talk.Version, x.talk.Kind}] = true
	}
	numbers := []int{math.MinInt, -255, -1, 0, 1, 2, 3, 4, 5, 6, 255, 256, 257, 258, 259, math.MaxInt}
	all := append(samples(), named{"nothing", api.Talk{}}, named{"nothing but V6", api.Talk{V6: true}})
	for _, version := range numbers {
		for _, kind := range numbers {
			if exists[shape{version, kind}] {
				continue
			}
			for _, x := range all {
				bad(t, x.name, with(x.talk, func(t *api.Talk) { t.Version, t.Kind = version, kind }))
			}
		}
	}
	bad(t, "nothing", api.Talk{})
}

// TestIs is for P9.3: no bytes, every first byte, and whatever goes on behind it.
func TestIs(t *testing.T) {
	if Is("") {
		t.Error("no bytes")
	}
	types := []int{130, 131, 132, 143}
	for first := range 256 {
		for _, behind := range []string{"", "\x00", "\x82", "abc", strings.Repeat("\x83", 1500)} {
			if got := Is(bytesFrom(first) + behind); got != slices.Contains(types, first) {
				t.Errorf("%d, and %d bytes behind it: %v", first, len(behind), got)
			}
		}
	}
	for _, x := range samples() {
		s := written(x.talk)
		if !Is(s) || !Is(s+"behind") || !Is(s[:1]) || Is(s[1:]) {
			t.Errorf("%s: %x", x.name, s)
		}
	}
}

// copied is t with lists of its own, which have some capacity to spare.
func copied(t api.Talk) api.Talk {
	t.Sources = append(make([]api.Addr, 0, len(t.Sources)+3), t.Sources...)
	list := make([]api.Record, 0, len(t.Records)+3)
	for _, r := range t.Records {
		r.Sources = append(make([]api.Addr, 0, len(r.Sources)+3), r.Sources...)
		list = append(list, r)
	}
	t.Records = list
	return t
}

// TestArgumentsStay is for the rule 'Memory': what is handed in is not changed, the spare capacity of lists included.
func TestArgumentsStay(t *testing.T) {
	for _, x := range samples() {
		given := copied(x.talk)
		spare := given.Records[:cap(given.Records)]
		Good(given)
		Write(given, router(), nodes())
		if !equal(given, x.talk) || !slices.Equal(given.Sources[:cap(given.Sources)][len(given.Sources):], make([]api.Addr, 3)) {
			t.Errorf("%s: the argument was changed", x.name)
		}
		for i, r := range spare {
			if i < len(given.Records) {
				if !slices.Equal(r.Sources[:cap(r.Sources)][len(r.Sources):], make([]api.Addr, 3)) {
					t.Errorf("%s: the spare sources of record %d were changed", x.name, i)
				}
			} else if r.Kind != 0 || r.Group != (api.Addr{}) || r.Sources != nil {
				t.Errorf("%s: the spare records were changed", x.name)
			}
		}
	}
}
