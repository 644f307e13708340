package igmp

import (
	"math"
	"slices"
	"strings"
	"testing"

	"acequia/addr"
	"acequia/api"
)

// named is a message, and what is special about it.
type named struct {
	name string
	talk api.Talk
}

// group is a group, and next is another one; host is a good source.
func group() api.Addr { return addr.Ip4(239, 129, 2, 3) }
func next() api.Addr  { return addr.Ip4(224, 0, 0, 251) }
func host() api.Addr  { return addr.Ip4(10, 0, 0, 9) }

// trailing is a with a byte behind its four that is not 0, so that it is not good.
func trailing(a api.Addr, at int) api.Addr {
	a.B[at] = 1
	return a
}

// six is a with V6 set.
func six(a api.Addr) api.Addr {
	a.V6 = true
	return a
}

// sources are that many sources, no two the same.
func sources(count int) []api.Addr {
	var out []api.Addr
	for i := range count {
		out = append(out, addr.Ip4(10, byte(i), byte(count), byte(255-i)))
	}
	return out
}

// record is a record with that many sources.
func record(kind int, group api.Addr, count int) api.Record {
	return api.Record{Kind: kind, Group: group, Sources: sources(count)}
}

// records are that many records of all kinds without sources.
func records(count int) []api.Record {
	var out []api.Record
	for i := range count {
		out = append(out, record(1+i%6, addr.Ip4(225, byte(i), byte(count), 7), 0))
	}
	return out
}

// plainQuery and the following are a good message of each shape, with something in every field that it has.
func plainQuery() api.Talk { return api.Talk{Version: 1, Kind: api.TQuery} }
func plainReport() api.Talk {
	return api.Talk{Version: 1, Kind: api.TReport, Group: group()}
}
func query() api.Talk {
	return api.Talk{Version: 2, Kind: api.TQuery, Resp: 100, Group: group()}
}
func report() api.Talk { return api.Talk{Version: 2, Kind: api.TReport, Group: group()} }
func leave() api.Talk  { return api.Talk{Version: 2, Kind: api.TLeave, Group: group()} }
func fullQuery() api.Talk {
	return api.Talk{Version: 3, Kind: api.TQuery, Resp: 100, Group: group(), Quiet: true, Robust: 2, Every: 125, Sources: sources(2)}
}
func fullReport() api.Talk {
	return api.Talk{Version: 3, Kind: api.TReport, Records: []api.Record{record(api.IsEx, group(), 2), record(api.Block, next(), 1)}}
}

// shapes are a message of each shape.
func shapes() []named {
	return []named{{"query 1", plainQuery()}, {"report 1", plainReport()}, {"query 2", query()}, {"report 2", report()},
		{"leave 2", leave()}, {"query 3", fullQuery()}, {"report 3", fullReport()}}
}

// with is t after a change.
func with(t api.Talk, change func(*api.Talk)) api.Talk {
	change(&t)
	return t
}

// sized is a report of Version 3 of that many bytes, a multiple of 4 from 16 to 1400, in as few records as that takes.
func sized(bytes int) api.Talk {
	t := api.Talk{Version: 3, Kind: api.TReport}
	for left := bytes - 8; left > 0; {
		count := min((left-8)/4, 64)
		// A record has no room in 4 bytes.
		if left-8-4*count == 4 {
			count--
		}
		t.Records = append(t.Records, record(api.IsIn, group(), count))
		left -= 8 + 4*count
	}
	return t
}

// samples are good messages: those of all shapes, and those at the edges.
func samples() []named {
	out := shapes()
	add := func(name string, t api.Talk) { out = append(out, named{name, t}) }
	for _, resp := range []int{1, 2, 127, 128, 129, 254, 255} {
		add("resp of 2", with(query(), func(t *api.Talk) { t.Resp = resp }))
	}
	for _, n := range []int{0, 1, 127, 128, 136, 248, 256, 272, 496, 512, 16384, 30720, 31744} {
		add("resp of 3", with(fullQuery(), func(t *api.Talk) { t.Resp = n }))
		add("every of 3", with(fullQuery(), func(t *api.Talk) { t.Every = n }))
	}
	for robust := range 8 {
		add("robust", with(fullQuery(), func(t *api.Talk) { t.Robust = robust }))
		add("robust, not quiet", with(fullQuery(), func(t *api.Talk) { t.Robust, t.Quiet = robust, false }))
	}
	add("query 2 of all", with(query(), func(t *api.Talk) { t.Group = api.Addr{} }))
	add("query 3 of all", with(fullQuery(), func(t *api.Talk) { t.Group, t.Sources = api.Addr{}, nil }))
	add("query 3 with zeros alone", api.Talk{Version: 3, Kind: api.TQuery})
	for _, g := range []api.Addr{addr.Ip4(224, 0, 0, 0), addr.Ip4(224, 0, 0, 1), addr.Ip4(232, 1, 2, 3), addr.Ip4(239, 255, 255, 255)} {
		for _, x := range []api.Talk{plainReport(), query(), report(), leave(), fullQuery()} {
			x.Group = g
			add("group", x)
		}
		add("group of a record", with(fullReport(), func(t *api.Talk) { t.Records = []api.Record{record(api.ToIn, g, 3)} }))
	}
	for _, count := range []int{0, 1, 63, 64} {
		add("sources", with(fullQuery(), func(t *api.Talk) { t.Sources = sources(count) }))
		add("sources of a record", with(fullReport(), func(t *api.Talk) { t.Records[1].Sources = sources(count) }))
		add("records", with(fullReport(), func(t *api.Talk) { t.Records = records(count) }))
	}
	// Whatever has four bytes may be a source, and the same one may stand there twice.
	odd := []api.Addr{{}, group(), addr.Ip4(255, 255, 255, 255), host(), host()}
	add("odd sources", with(fullQuery(), func(t *api.Talk) { t.Sources = odd }))
	add("odd sources of a record", with(fullReport(), func(t *api.Talk) { t.Records[0].Sources = odd }))
	for kind := 1; kind <= 6; kind++ {
		add("kind", with(fullReport(), func(t *api.Talk) { t.Records[1].Kind = kind }))
	}
	for _, bytes := range []int{16, 1396, 1400} {
		add("size", sized(bytes))
	}
	return out
}

// wrongGroups are addresses that are no group, zero among them, or not good.
func wrongGroups() []api.Addr {
	out := []api.Addr{{}, six(api.Addr{}), addr.Ip4(0, 0, 0, 1), addr.Ip4(0, 1, 0, 0), host(), addr.Ip4(223, 255, 255, 255), addr.Ip4(240, 0, 0, 0),
		addr.Ip4(255, 255, 255, 255), six(group()), six(addr.Ip4(255, 2, 0, 0))}
	for at := 4; at < 16; at++ {
		out = append(out, trailing(group(), at), trailing(api.Addr{}, at))
	}
	return out
}

// wrongSources are sources that no message may bear.
func wrongSources() []api.Addr {
	out := []api.Addr{six(host()), six(api.Addr{}), six(group())}
	for at := 4; at < 16; at++ {
		out = append(out, trailing(host(), at), trailing(api.Addr{}, at))
	}
	return out
}

// bad checks that t is not good, and that it has no bytes.
func bad(t *testing.T, name string, talk api.Talk) {
	t.Helper()
	if Good(talk) {
		t.Errorf("%s: %+v is good", name, talk)
	}
	if s, err := Write(talk); s != "" || err != api.ErrForm {
		t.Errorf("%s: %+v is written as %x, %v", name, talk, s, err)
	}
}

// TestGood is for P8.1: all samples.
func TestGood(t *testing.T) {
	for _, x := range samples() {
		if !Good(x.talk) {
			t.Errorf("%s: %+v is not good", x.name, x.talk)
		}
	}
}

// TestBadNumbers is for P8.1: Resp, Every and Robust beyond their bounds, and times that are not exact.
func TestBadNumbers(t *testing.T) {
	for _, n := range []int{0, -1, 256, 257, 512, 31744, -255, math.MinInt, math.MaxInt} {
		bad(t, "resp of 2", with(query(), func(t *api.Talk) { t.Resp = n }))
	}
	for _, n := range []int{-1, -128, 129, 135, 137, 247, 249, 255, 257, 271, 16385, 31743, 31745, 32768, math.MinInt, math.MaxInt} {
		bad(t, "resp of 3", with(fullQuery(), func(t *api.Talk) { t.Resp = n }))
		bad(t, "every of 3", with(fullQuery(), func(t *api.Talk) { t.Every = n }))
	}
	for _, n := range []int{-1, 8, 9, 15, 16, math.MinInt, math.MaxInt} {
		bad(t, "robust", with(fullQuery(), func(t *api.Talk) { t.Robust = n }))
	}
}

// TestBadGroups is for P8.1: addresses that are no groups, wherever a group is asked for.
func TestBadGroups(t *testing.T) {
	for _, g := range wrongGroups() {
		for _, x := range []api.Talk{plainReport(), report(), leave()} {
			x.Group = g
			bad(t, "group", x)
		}
		bad(t, "group of a record", with(fullReport(), func(t *api.Talk) { t.Records[0].Group = g }))
		bad(t, "group of the last record", with(fullReport(), func(t *api.Talk) { t.Records[1].Group = g }))
		if g != (api.Addr{}) {
			bad(t, "group", with(query(), func(t *api.Talk) { t.Group = g }))
			bad(t, "group", with(fullQuery(), func(t *api.Talk) { t.Group, t.Sources = g, nil }))
			bad(t, "group", with(plainQuery(), func(t *api.Talk) { t.Group = g }))
		}
	}
	bad(t, "group", with(plainQuery(), func(t *api.Talk) { t.Group = group() }))
}

// TestBadSources is for P8.1: sources that are too many, wrong, or not of a group.
func TestBadSources(t *testing.T) {
	for _, count := range []int{65, 66, 128, 256, 300} {
		bad(t, "sources", with(fullQuery(), func(t *api.Talk) { t.Sources = sources(count) }))
		bad(t, "sources of a record", with(fullReport(), func(t *api.Talk) { t.Records[0].Sources = sources(count) }))
		bad(t, "sources of the last record", with(fullReport(), func(t *api.Talk) { t.Records[1].Sources = sources(count) }))
	}
	for _, count := range []int{1, 2, 64, 65} {
		bad(t, "sources of all", with(fullQuery(), func(t *api.Talk) { t.Group, t.Sources = api.Addr{}, sources(count) }))
	}
	for _, a := range wrongSources() {
		for _, at := range []int{0, 1, 63} {
			list := sources(64)
			list[at] = a
			bad(t, "source", with(fullQuery(), func(t *api.Talk) { t.Sources = list }))
			bad(t, "source of a record", with(fullReport(), func(t *api.Talk) { t.Records[0].Sources = list }))
			bad(t, "source of the last record", with(fullReport(), func(t *api.Talk) { t.Records[1].Sources = list }))
		}
	}
}

// TestBadRecords is for P8.1: records that are too many, of wrong kinds, and too long together.
func TestBadRecords(t *testing.T) {
	for _, count := range []int{65, 66, 128, 256, 300} {
		bad(t, "records", with(fullReport(), func(t *api.Talk) { t.Records = records(count) }))
	}
	for _, kind := range []int{0, 7, 8, -1, 255, 257, 258, math.MinInt, math.MaxInt} {
		for _, at := range []int{0, 1, 63} {
			list := records(64)
			list[at].Kind = kind
			bad(t, "kind", with(fullReport(), func(t *api.Talk) { t.Records = list }))
		}
	}
	long := sized(1400)
	last := len(long.Records) - 1
	long.Records[last].Sources = append(long.Records[last].Sources, host())
	bad(t, "1404 bytes", long)
	bad(t, "1404 bytes", with(sized(1396), func(t *api.Talk) { t.Records = append(t.Records, record(api.ToEx, group(), 0)) }))
	bad(t, "1408 bytes", with(sized(1400), func(t *api.Talk) { t.Records = append(t.Records, record(api.ToEx, group(), 0)) }))
	full := with(fullReport(), func(t *api.Talk) { t.Records = nil })
	for range 64 {
		full.Records = append(full.Records, record(api.ToEx, group(), 64))
	}
	bad(t, "as many as there may be", full)
}

// field is one of a message's fields, and a change that sets it to something other than zero.
type field struct {
	name string
	set  func(*api.Talk)
}

// fields are all fields but Version and Kind.
func fields() []field {
	return []field{
		{"V6", func(t *api.Talk) { t.V6 = true }},
		{"Resp", func(t *api.Talk) { t.Resp = 1 }},
		{"Resp", func(t *api.Talk) { t.Resp = -1 }},
		{"Group", func(t *api.Talk) { t.Group = group() }},
		{"Group", func(t *api.Talk) { t.Group = six(api.Addr{}) }},
		{"Group", func(t *api.Talk) { t.Group = trailing(api.Addr{}, 15) }},
		{"Quiet", func(t *api.Talk) { t.Quiet = true }},
		{"Robust", func(t *api.Talk) { t.Robust = 1 }},
		{"Robust", func(t *api.Talk) { t.Robust = -1 }},
		{"Every", func(t *api.Talk) { t.Every = 1 }},
		{"Every", func(t *api.Talk) { t.Every = -1 }},
		{"Sources", func(t *api.Talk) { t.Sources = sources(1) }},
		{"Sources", func(t *api.Talk) { t.Sources = make([]api.Addr, 1) }},
		{"Sources", func(t *api.Talk) { t.Sources = sources(65) }},
		{"Records", func(t *api.Talk) { t.Records = records(1) }},
		{"Records", func(t *api.Talk) { t.Records = make([]api.Record, 1) }},
		{"Records", func(t *api.Talk) { t.Records = records(65) }},
	}
}

// has are the fields of each shape.
func has() map[string]string {
	return map[string]string{"query 1": "", "report 1": "Group", "query 2": "Resp Group", "report 2": "Group", "leave 2": "Group",
		"query 3": "Resp Group Quiet Robust Every Sources", "report 3": "Records"}
}

// TestBadFields is for P8.1: each field that a message does not have, set to something other than zero.
func TestBadFields(t *testing.T) {
	for _, x := range shapes() {
		for _, f := range fields() {
			if !slices.Contains(strings.Fields(has()[x.name]), f.name) {
				bad(t, x.name+" with "+f.name, with(x.talk, f.set))
			}
		}
		empty := x.talk
		empty.Sources = append([]api.Addr{}, empty.Sources...)
		empty.Records = append([]api.Record{}, empty.Records...)
		if !Good(empty) {
			t.Errorf("%s: lists that are empty, but not nil, are not good", x.name)
		}
	}
}

// TestBadShapes is for P8.1: versions and kinds that do not exist, whatever the fields are.
func TestBadShapes(t *testing.T) {
	exists := map[shape]bool{}
	for _, x := range shapes() {
		exists[shape{x.talk.Version, x.talk.Kind}] = true
	}
	numbers := []int{math.MinInt, -255, -1, 0, 1, 2, 3, 4, 5, 6, 255, 256, 257, 258, 259, math.MaxInt}
	for _, version := range numbers {
		for _, kind := range numbers {
			if exists[shape{version, kind}] {
				continue
			}
			for _, x := range append(samples(), named{"nothing", api.Talk{}}) {
				bad(t, x.name, with(x.talk, func(t *api.Talk) { t.Version, t.Kind = version, kind }))
			}
		}
	}
	bad(t, "nothing", api.Talk{})
}

// TestSame is for P8.1: messages are the same as themselves and as copies, good or not.
func TestSame(t *testing.T) {
	all := append(samples(), named{"nothing", api.Talk{}}, named{"everything", everything()})
	for _, x := range all {
		if !Same(x.talk, x.talk) || !Same(x.talk, copied(x.talk)) || !Same(copied(x.talk), x.talk) {
			t.Errorf("%s: %+v is not the same as itself", x.name, x.talk)
		}
	}
	for i, x := range shapes() {
		for j, y := range shapes() {
			if Same(x.talk, y.talk) != (i == j) {
				t.Errorf("%s and %s: %v", x.name, y.name, i != j)
			}
		}
	}
	// Nil and empty are the same.
	a, b := api.Talk{}, api.Talk{Sources: []api.Addr{}, Records: []api.Record{}}
	c, d := api.Talk{Records: []api.Record{{}}}, api.Talk{Records: []api.Record{{Sources: []api.Addr{}}}}
	if !Same(a, b) || !Same(b, a) || !Same(c, d) || !Same(d, c) {
		t.Error("nil and empty")
	}
}

// everything is a message with something in every field; it is not good.
func everything() api.Talk {
	t := fullQuery()
	t.V6 = true
	t.Records = fullReport().Records
	return t
}

// copied is t with lists of its own, which have some capacity to spare.
func copied(t api.Talk) api.Talk {
	t.Sources = append(make([]api.Addr, 0, len(t.Sources)+3), t.Sources...)
	list := make([]api.Record, 0, len(t.Records)+3)
	for _, r := range t.Records {
		r.Sources = append(make([]api.Addr, 0, len(r.Sources)+3), r.Sources...)
		list = append(list, r)
	}
	t.Records = list
	return t
}

// TestNotSame is for P8.1: messages that differ in one part alone.
func TestNotSame(t *testing.T) {
	for _, f := range []field{
		{"V6", func(t *api.Talk) { t.V6 = false }},
		{"Version", func(t *api.Talk) { t.Version = 2 }},
		{"Kind", func(t *api.Talk) { t.Kind = api.TReport }},
		{"Resp", func(t *api.Talk) { t.Resp++ }},
		{"Group", func(t *api.Talk) { t.Group = next() }},
		{"V6 of the Group", func(t *api.Talk) { t.Group.V6 = true }},
		{"first byte of the Group", func(t *api.Talk) { t.Group.B[0]++ }},
		{"last byte of the Group", func(t *api.Talk) { t.Group.B[15]++ }},
		{"Quiet", func(t *api.Talk) { t.Quiet = false }},
		{"Robust", func(t *api.Talk) { t.Robust++ }},
		{"Every", func(t *api.Talk) { t.Every++ }},
		{"first Source", func(t *api.Talk) { t.Sources[0] = next() }},
		{"last Source", func(t *api.Talk) { t.Sources[1] = next() }},
		{"V6 of a Source", func(t *api.Talk) { t.Sources[1].V6 = true }},
		{"last byte of a Source", func(t *api.Talk) { t.Sources[0].B[15]++ }},
		{"order of the Sources", func(t *api.Talk) { slices.Reverse(t.Sources) }},
		{"one Source fewer", func(t *api.Talk) { t.Sources = t.Sources[:1] }},
		{"first Source missing", func(t *api.Talk) { t.Sources = t.Sources[1:] }},
		{"one Source more", func(t *api.Talk) { t.Sources = append(t.Sources, api.Addr{}) }},
		{"no Sources", func(t *api.Talk) { t.Sources = nil }},
		{"Kind of a Record", func(t *api.Talk) { t.Records[0].Kind++ }},
		{"Kind of the last Record", func(t *api.Talk) { t.Records[1].Kind-- }},
		{"Group of a Record", func(t *api.Talk) { t.Records[0].Group = next() }},
		{"Group of the last Record", func(t *api.Talk) { t.Records[1].Group = group() }},
		{"V6 of the Group of a Record", func(t *api.Talk) { t.Records[0].Group.V6 = true }},
		{"Source of a Record", func(t *api.Talk) { t.Records[0].Sources[1] = next() }},
		{"Source of the last Record", func(t *api.Talk) { t.Records[1].Sources[0] = next() }},
		{"one Source of a Record fewer", func(t *api.Talk) { t.Records[0].Sources = t.Records[0].Sources[:1] }},
		{"one Source of a Record more", func(t *api.Talk) { t.Records[1].Sources = append(t.Records[1].Sources, api.Addr{}) }},
		{"no Sources of a Record", func(t *api.Talk) { t.Records[1].Sources = nil }},
		{"order of the Records", func(t *api.Talk) { slices.Reverse(t.Records) }},
		{"one Record fewer", func(t *api.Talk) { t.Records = t.Records[:1] }},
		{"first Record missing", func(t *api.Talk) { t.Records = t.Records[1:] }},
		{"one Record more", func(t *api.Talk) { t.Records = append(t.Records, api.Record{}) }},
		{"no Records", func(t *api.Talk) { t.Records = nil }},
	} {
		other := with(copied(everything()), f.set)
		if Same(everything(), other) || Same(other, everything()) {
			t.Errorf("%s does not count", f.name)
		}
	}
}

// TestArgumentsStay is for the rule 'Memory': what is handed in is not changed, the spare capacity of lists included.
func TestArgumentsStay(t *testing.T) {
	for _, x := range append(samples(), named{"everything", everything()}) {
		given := copied(x.talk)
		spare := given.Records[:cap(given.Records)]
		Good(given)
		Same(given, x.talk)
		Same(x.talk, given)
		Write(given)
		if !Same(given, x.talk) || !slices.Equal(given.Sources[:cap(given.Sources)][len(given.Sources):], make([]api.Addr, 3)) {
			t.Errorf("%s: the argument was changed", x.name)
		}
		for i, r := range spare {
			if i < len(given.Records) {
				if !slices.Equal(r.Sources[:cap(r.Sources)][len(r.Sources):], make([]api.Addr, 3)) {
					t.Errorf("%s: the spare sources of record %d were changed", x.name, i)
				}
			} else if r.Kind != 0 || r.Group != (api.Addr{}) || r.Sources != nil {
				t.Errorf("%s: the spare records were changed", x.name)
			}
		}
	}
}
