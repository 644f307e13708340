package mld

import (
	"encoding/hex"
	"slices"
	"strings"
	"testing"

	"acequia/addr"
	"acequia/api"
)

// start is the beginning of s, for a report of what went wrong.
func start(s string) string {
	return s[:min(len(s), 80)]
}

// badlyFor checks that s is no message between these addresses, for that reason, and that nothing else is told.
func badlyFor(t *testing.T, name, s string, from, to api.Addr, code api.Errno) {
	t.Helper()
	if got, err := Read(s, from, to); err != code || !equal(got, api.Talk{}) {
		t.Errorf("%s, %x: %+v, %v, not %v", name, start(s), got, err, code)
	}
}

// badly checks the same from router to nodes.
func badly(t *testing.T, name, s string, code api.Errno) {
	t.Helper()
	badlyFor(t, name, s, router(), nodes(), code)
}

// well checks that s is the message want, from router to nodes.
func well(t *testing.T, name, s string, want api.Talk) {
	t.Helper()
	if got, err := Read(s, router(), nodes()); err != api.OK || !equal(got, want) {
		t.Errorf("%s, %x: %+v, %v, not %+v", name, start(s), got, err, want)
	}
}

// equal holds messages against each other.
func equal(a, b api.Talk) bool {
	if len(a.Records) != len(b.Records) || !slices.Equal(a.Sources, b.Sources) {
		return false
	}
	for i, r := range a.Records {
		if r.Kind != b.Records[i].Kind || r.Group != b.Records[i].Group || !slices.Equal(r.Sources, b.Records[i].Sources) {
			return false
		}
	}
	return a.V6 == b.V6 && a.Version == b.Version && a.Kind == b.Kind && a.Resp == b.Resp && a.Group == b.Group && a.Quiet == b.Quiet && a.Robust == b.Robust && a.Every == b.Every
}

// patched is s with the bytes from at on replaced by next, and sealed anew.
func patched(s string, at int, next string) string {
	return sealed(s[:at] + next + s[at+len(next):])
}

// short is the bytes of a message of 24 bytes.
func short(kind, resp int, group api.Addr) string {
	return sealed(plain(kind, resp, group))
}

// asking is the bytes of a query of Version 2 that announces count sources, with these behind it.
func asking(group api.Addr, count int, behind string) string {
	return sealed(plain(130, 1000, group) + bytesFrom(2, 125, count>>8, count) + behind)
}

// bare is the query of Version 2 that asking makes.
func bare(group api.Addr, sources ...api.Addr) api.Talk {
	return api.Talk{V6: true, Version: 2, Kind: api.TQuery, Resp: 1000, Group: group, Robust: 2, Every: 125, Sources: sources}
}

// telling is the bytes of a report of Version 2 that announces count records, with these behind it.
func telling(count int, behind string) string {
	return sealed("\x8f\x00\x00\x00\x00\x00" + bytesFrom(count>>8, count) + behind)
}

// told is the bytes of a record that announces count sources, and words of other things behind them.
func told(kind, words, count int, group api.Addr, behind string) string {
	return bytesFrom(kind, words, count>>8, count) + wide(group) + behind
}

// holding is a report of Version 2 with these records.
func holding(records ...api.Record) api.Talk {
	return api.Talk{V6: true, Version: 2, Kind: api.TReport, Records: records}
}

// isGroup is whether the bytes of a are those of a group.
func isGroup(a api.Addr) bool {
	return a.B[0] == 255
}

// TestReadExample is the example of the chapter: 24 bytes that begin with 130 are a query of Version 1.
func TestReadExample(t *testing.T) {
	s, _ := hex.DecodeString("820055dd27100000" + "ff1e0000000000000000000001020304")
	got, err := Read(string(s), at("fe80::1"), at("ff02::16"))
	if want := (api.Talk{V6: true, Version: 1, Kind: api.TQuery, Resp: 10000, Group: at("ff1e::102:304")}); err != api.OK || !equal(got, want) {
		t.Errorf("%+v, %v", got, err)
	}
}

// TestReadOfWrite is for P9.4: all samples come back, between whatever addresses.
func TestReadOfWrite(t *testing.T) {
	list := []api.Addr{none(), router(), nodes(), host(), group()}
	for _, x := range samples() {
		for _, from := range list {
			for _, to := range list {
				s, _ := Write(x.talk, from, to)
				if got, err := Read(s, from, to); err != api.OK || !equal(got, x.talk) {
					t.Errorf("%s, %x: %+v, %v", x.name, start(s), got, err)
				}
			}
		}
	}
}

// TestReadAddresses is for P9.3: addresses without V6, whatever the bytes are.
func TestReadAddresses(t *testing.T) {
	ill := []api.Addr{{}, addr.Ip4(10, 0, 0, 1), four(router()), four(nodes())}
	texts := []string{"", "abc", "\x8f", short(130, 5, group()), short(130, 5, host()), short(99, 0, group()), asking(group(), 65, ""), telling(65, ""), "no checksum, no type, but some bytes"}
	for _, x := range samples() {
		texts = append(texts, written(x.talk))
	}
	for _, s := range texts {
		for _, a := range ill {
			for _, ends := range [][2]api.Addr{{a, nodes()}, {router(), a}, {a, a}, {a, api.Addr{}}} {
				badlyFor(t, "address", s, ends[0], ends[1], api.ErrArg)
				if len(s) > 3 {
					badlyFor(t, "address, and sealed for it", sealedFor(s, ends[0], ends[1]), ends[0], ends[1], api.ErrArg)
				}
			}
		}
	}
}

// TestReadShort is for P9.3: fewer than 8 bytes, whatever they are.
func TestReadShort(t *testing.T) {
	for _, x := range samples() {
		s := written(x.talk)
		for size := range 8 {
			badly(t, "too short", s[:size], api.ErrEnd)
			if size > 3 {
				badly(t, "too short, and sealed", sealed(s[:size]), api.ErrEnd)
			}
		}
	}
	for size := range 8 {
		badly(t, "zeros", strings.Repeat("\x00", size), api.ErrEnd)
		badly(t, "ones", strings.Repeat("\xff", size), api.ErrEnd)
		badly(t, "another type", strings.Repeat("\x81", size), api.ErrEnd)
	}
	// From 8 bytes on a report of Version 2 may be there, and all else is too short still.
	for size := 8; size < 24; size++ {
		for _, kind := range []int{130, 131, 132} {
			badly(t, "too short", sealed(plain(kind, 0, group())[:size]), api.ErrEnd)
			badly(t, "too short, and of no group", sealed(plain(kind, 0, host())[:size]), api.ErrEnd)
		}
		well(t, "report", sealed("\x8f\x00\x00\x00\x00\x00\x00\x00"+strings.Repeat("x", size-8)), holding())
		badly(t, "another type", sealed(plain(133, 0, group())[:size]), api.ErrKind)
	}
}

// TestReadSum is for P9.3: every bit counts, those of what is ignored and those of the addresses too.
func TestReadSum(t *testing.T) {
	for _, x := range samples() {
		for _, s := range []string{written(x.talk), sealed(written(x.talk) + "behind"), sealed(written(x.talk) + "beh")} {
			for at := range min(len(s), 60) {
				for bit := range 8 {
					badly(t, x.name, s[:at]+bytesFrom(int(s[at])^1<<bit)+s[at+1:], api.ErrSum)
				}
			}
		}
		s := written(x.talk)
		badly(t, "more behind than was summed", s+"\x00", api.ErrSum)
		badly(t, "more behind than was summed", s+"\x00\x00", api.ErrSum)
		badly(t, "summed for one byte more", sealed(s + "\x00")[:len(s)], api.ErrSum)
		badly(t, "without the addresses", s[:2]+bytesFrom((65535-sumOf(open(x.talk)))>>8, 65535-sumOf(open(x.talk)))+s[4:], api.ErrSum)
		for at := range 16 {
			from, to := router(), nodes()
			from.B[at] ^= 1
			to.B[at] ^= 128
			badlyFor(t, "from another", s, from, nodes(), api.ErrSum)
			badlyFor(t, "to another", s, router(), to, api.ErrSum)
			badly(t, "for another", sealedFor(s, from, nodes()), api.ErrSum)
			badly(t, "for another", sealedFor(s, router(), to), api.ErrSum)
		}
	}
	badly(t, "zeros", strings.Repeat("\x00", 24), api.ErrSum)
	badly(t, "no checksum", plain(130, 0, none()), api.ErrSum)
}

// TestReadType is for P9.3: every first byte, with all that may be behind it.
func TestReadType(t *testing.T) {
	exists := []int{130, 131, 132, 143}
	for first := range 256 {
		if slices.Contains(exists, first) {
			continue
		}
		for _, x := range samples() {
			s := written(x.talk)
			badly(t, "type", patched(s, 0, bytesFrom(first)), api.ErrKind)
			badly(t, "type", sealed(patched(s, 0, bytesFrom(first))+"123"), api.ErrKind)
			badly(t, "type, and 8 bytes", sealed(patched(s, 0, bytesFrom(first))[:8]), api.ErrKind)
		}
	}
	well(t, "query", short(130, 7, group()), api.Talk{V6: true, Version: 1, Kind: api.TQuery, Resp: 7, Group: group()})
	well(t, "report", short(131, 7, group()), report1())
	well(t, "leave", short(132, 7, group()), leave1())
	well(t, "report 2", sealed("\x8f\x00\x00\x00\x00\x00\x00\x00"), holding())
}

// TestReadQueryVersion is for P9.3: queries of each size from 24 to 40 bytes, with all kinds of Resp.
func TestReadQueryVersion(t *testing.T) {
	for _, resp := range []int{0, 1, 255, 256, 32767, 32768, 32769, 36863, 36864, 40961, 65534, 65535} {
		for _, g := range []api.Addr{none(), group()} {
			all := plain(130, resp, g) + "\x02\x7d\x00\x00"
			well(t, "query 1", sealed(all[:24]), api.Talk{V6: true, Version: 1, Kind: api.TQuery, Resp: resp, Group: g})
			for size := 25; size < 28; size++ {
				badly(t, "no version", sealed(all[:size]), api.ErrForm)
			}
			for size := 28; size < 40; size++ {
				s := sealed(all + strings.Repeat("\xa5", size-28))
				well(t, "query 2", s, api.Talk{V6: true, Version: 2, Kind: api.TQuery, Resp: value16(resp), Group: g, Robust: 2, Every: 125})
			}
		}
		for size := 24; size < 40; size++ {
			badly(t, "no group", sealed((plain(130, resp, host()) + strings.Repeat("\x00", 20))[:size]), api.ErrForm)
		}
	}
}

// TestReadQueryTimes is for P9.3: every Resp of both versions.
func TestReadQueryTimes(t *testing.T) {
	for c := range 65536 {
		well(t, "resp", short(130, c, group()), api.Talk{V6: true, Version: 1, Kind: api.TQuery, Resp: c, Group: group()})
		want := bare(group())
		want.Resp = value16(c)
		well(t, "resp of 2", patched(asking(group(), 0, ""), 4, bytesFrom(c>>8, c)), want)
	}
}

// TestReadQueryFields is for P9.3: every byte 24, of which the higher bits are ignored, and every byte 25.
func TestReadQueryFields(t *testing.T) {
	for b := range 256 {
		s := asking(group(), 1, wide(host()))
		want := bare(group(), host())
		want.Quiet, want.Robust = b/8%2 == 1, b%8
		well(t, "byte 24", patched(s, 24, bytesFrom(b)), want)
		want = bare(group(), host())
		want.Every = value8(b)
		well(t, "byte 25", patched(s, 25, bytesFrom(b)), want)
	}
}

// TestReadGroup is for P9.3: every first byte of a Group, and zero, in messages of each shape.
func TestReadGroup(t *testing.T) {
	list := []api.Addr{none(), with6(0, 0, 1), with6(0, 255, 0), with6(255, 0, 0), at("::ffff:ef01:203")}
	for first := range 256 {
		list = append(list, with6(byte(first), 1, 2))
	}
	for _, g := range list {
		for _, x := range []api.Talk{report1(), leave1()} {
			x.Group = g
			s := written(x)
			if isGroup(g) {
				well(t, "member", s, x)
			} else {
				badly(t, "member", s, api.ErrForm)
				badly(t, "member, and more behind", sealed(s+"behind"), api.ErrForm)
			}
		}
		if isGroup(g) || g == none() {
			well(t, "query 1", short(130, 1, g), api.Talk{V6: true, Version: 1, Kind: api.TQuery, Resp: 1, Group: g})
			well(t, "query 2", asking(g, 0, ""), bare(g))
		} else {
			badly(t, "query 1", short(130, 1, g), api.ErrForm)
			badly(t, "query 2", asking(g, 0, ""), api.ErrForm)
			badly(t, "query 2 with sources", asking(g, 1, wide(host())), api.ErrForm)
		}
	}
}

// TestReadMembers is for P9.3: in reports and leaves of Version 1 the second byte, the Resp and what is specified as 0 are ignored, and so is what follows.
func TestReadMembers(t *testing.T) {
	for _, x := range []api.Talk{report1(), leave1()} {
		for b := range 256 {
			for _, at := range []int{1, 4, 5, 6, 7} {
				well(t, "ignored byte", patched(written(x), at, bytesFrom(b)), x)
			}
			well(t, "all of them", patched(patched(written(x), 1, bytesFrom(b)), 4, bytesFrom(255, b, b, 255)), x)
		}
		for size := range 40 {
			well(t, "more behind", sealed(written(x)+strings.Repeat("\xa5", size)), x)
		}
	}
}

// TestReadSources is for P9.3: as many sources as are announced, fewer bytes, and more.
func TestReadSources(t *testing.T) {
	for _, count := range []int{0, 1, 2, 3, 63, 64} {
		list := wide(sourceList(count)...)
		well(t, "sources", asking(group(), count, list), bare(group(), sourceList(count)...))
		for _, behind := range []string{"\x00", "ab", "abc", "abcd", list + "sixteen bytes, or", strings.Repeat("x", 1500)} {
			well(t, "sources, and more behind", asking(group(), count, list+behind), bare(group(), sourceList(count)...))
		}
		for size := range list {
			badly(t, "fewer than announced", asking(group(), count, list[:size]), api.ErrEnd)
		}
	}
	for _, count := range []int{65, 66, 127, 128, 255, 256, 257, 320, 32768, 65535} {
		badly(t, "too many", asking(group(), count, wide(sourceList(65)...)), api.ErrLong)
		badly(t, "too many, and none there", asking(group(), count, ""), api.ErrLong)
		badly(t, "too many, and one byte there", asking(group(), count, "x"), api.ErrLong)
		badly(t, "too many, and all there", asking(group(), count, strings.Repeat("sixteen bytes..!", count)), api.ErrLong)
	}
	for _, count := range []int{1, 2, 64, 65, 255, 256, 512, 65535} {
		badly(t, "of all", asking(none(), count, wide(sourceList(min(count, 65))...)), api.ErrForm)
		badly(t, "of all, and none there", asking(none(), count, ""), api.ErrForm)
		badly(t, "of all, and three bytes there", asking(none(), count, "abc"), api.ErrForm)
	}
	odd := []api.Addr{none(), group(), host(), host(), at("ffff:ffff:ffff:ffff:ffff:ffff:ffff:ffff")}
	well(t, "odd sources", asking(group(), 5, wide(odd...)), bare(group(), odd...))
}

// TestReadRecordSources is for P9.3: the same, in records.
func TestReadRecordSources(t *testing.T) {
	first := holds(api.IsIn, next(), 1)
	ahead := told(api.IsIn, 0, 1, next(), wide(first.Sources...))
	for _, count := range []int{0, 1, 2, 63, 64} {
		r := holds(api.ToEx, group(), count)
		bytes := told(api.ToEx, 0, count, group(), wide(r.Sources...))
		well(t, "one record", telling(1, bytes), holding(r))
		well(t, "the second record", telling(2, ahead+bytes), holding(first, r))
		well(t, "a record behind", telling(2, bytes+ahead), holding(r, first))
		well(t, "more behind", telling(1, bytes+ahead), holding(r))
		well(t, "one byte behind", telling(1, bytes+"x"), holding(r))
		for size := range bytes {
			badly(t, "fewer than announced", telling(1, bytes[:size]), api.ErrEnd)
			badly(t, "fewer than announced of the second record", telling(2, ahead+bytes[:size]), api.ErrEnd)
		}
		badly(t, "no second record", telling(2, bytes), api.ErrEnd)
	}
	for _, count := range []int{65, 66, 128, 255, 256, 257, 32768, 65535} {
		for _, kind := range []int{api.IsIn, api.Block, 0, 7, 255} {
			for _, g := range []api.Addr{group(), none(), host()} {
				for _, behind := range []string{"", "abc", wide(sourceList(65)...), wide(sourceList(64)...) + ahead} {
					bytes := told(kind, 0, count, g, behind)
					badly(t, "too many", telling(1, bytes), api.ErrLong)
					badly(t, "too many in the second record", telling(2, ahead+bytes), api.ErrLong)
					badly(t, "too many ahead of others", telling(64, bytes), api.ErrLong)
				}
			}
		}
	}
}

// TestReadWords is for P9.3: the words behind the sources of a record are passed over, as many as are announced, and no fewer.
func TestReadWords(t *testing.T) {
	last := holds(api.Block, next(), 2)
	behind := told(api.Block, 0, 2, next(), wide(last.Sources...))
	for words := range 256 {
		other := strings.Repeat("\x01\x02\x03\xff", words)
		for _, count := range []int{0, 1, 64} {
			r := holds(api.IsEx, group(), count)
			bytes := told(api.IsEx, words, count, group(), wide(r.Sources...)+other)
			well(t, "words", telling(1, bytes), holding(r))
			well(t, "words ahead of a record", telling(2, bytes+behind), holding(r, last))
			well(t, "words of a record that is ignored", telling(2, told(9, words, count, group(), wide(r.Sources...)+other)+behind), holding(last))
			for less := 1; less <= min(4*words, 9); less++ {
				badly(t, "fewer words", telling(1, bytes[:len(bytes)-less]), api.ErrEnd)
			}
			if words > 0 {
				badly(t, "no words", telling(1, bytes[:len(bytes)-4*words]), api.ErrEnd)
			}
		}
	}
}

// TestReadRecords is for P9.3: as many records as are announced, fewer, and more.
func TestReadRecords(t *testing.T) {
	for _, count := range []int{0, 1, 2, 6, 63, 64} {
		bytes := open(holding(recordList(count)...))[8:]
		well(t, "records", telling(count, bytes), holding(recordList(count)...))
		well(t, "records, and another behind", telling(count, bytes+told(api.ToIn, 0, 0, next(), "")), holding(recordList(count)...))
		well(t, "records, and some bytes behind", telling(count, bytes+"abc"), holding(recordList(count)...))
		for size := range bytes {
			badly(t, "fewer than announced", telling(count, bytes[:size]), api.ErrEnd)
		}
	}
	for _, count := range []int{65, 66, 128, 255, 256, 257, 320, 32768, 65535} {
		badly(t, "too many", telling(count, open(holding(recordList(65)...))[8:]), api.ErrLong)
		badly(t, "too many, and none there", telling(count, ""), api.ErrLong)
		badly(t, "too many, and some bytes there", telling(count, "abc"), api.ErrLong)
		badly(t, "too many, and all are ignored", telling(count, strings.Repeat(told(0, 0, 0, group(), ""), 65)), api.ErrLong)
		badly(t, "too many, and all are there", telling(count, strings.Repeat(told(1, 0, 0, group(), ""), count)), api.ErrLong)
	}
	// What is read may be longer than what may be written.
	long, bytes := holding(), ""
	for i := range 64 {
		r := holds(1+i%6, group(), 64)
		long.Records = append(long.Records, r)
		bytes += told(r.Kind, 0, 64, group(), wide(r.Sources...))
	}
	well(t, "as much as there may be", telling(64, bytes), long)
	bad(t, "as much as there may be", long)
}

// TestReadIgnoredRecords is for P9.3: records of every kind, and of groups that are none, among others.
func TestReadIgnoredRecords(t *testing.T) {
	first, last := holds(api.IsIn, next(), 1), holds(api.Block, next(), 2)
	ahead, behind := told(api.IsIn, 0, 1, next(), wide(first.Sources...)), told(api.Block, 0, 2, next(), wide(last.Sources...))
	check := func(kind int, g api.Addr) {
		for _, count := range []int{0, 2} {
			for _, words := range []int{0, 1} {
				r := holds(kind, g, count)
				bytes := told(kind, words, count, g, wide(r.Sources...)+strings.Repeat("word", words))
				if kind >= 1 && kind <= 6 && isGroup(g) {
					well(t, "in the middle", telling(3, ahead+bytes+behind), holding(first, r, last))
					continue
				}
				well(t, "ignored", telling(1, bytes), holding())
				well(t, "ignored in the middle", telling(3, ahead+bytes+behind), holding(first, last))
				well(t, "ignored at the end", telling(2, ahead+bytes), holding(first))
				well(t, "ignored as often as there may be", telling(64, strings.Repeat(bytes, 64)), holding())
				for size := range bytes {
					badly(t, "ignored, and not all there", telling(2, ahead+bytes[:size]), api.ErrEnd)
				}
			}
		}
	}
	for b := range 256 {
		check(b, group())
		check(api.ToIn, with6(byte(b), 1, 2))
	}
	check(api.ToIn, none())
	check(0, none())
	check(7, host())
	check(1, group())
}

// TestReadZeros is for P9.3: what is specified as 0 is ignored, and so is the second byte.
func TestReadZeros(t *testing.T) {
	for b := range 256 {
		for _, x := range []struct {
			talk api.Talk
			at   []int
		}{{query1(), []int{1, 6, 7}}, {query2(), []int{1, 6, 7}}, {report2(), []int{1, 4, 5}}} {
			s := written(x.talk)
			for i, at := range x.at {
				well(t, "one byte", patched(written(x.talk), at, bytesFrom(b)), x.talk)
				s = patched(s, at, bytesFrom(b*(i+1)+i))
			}
			well(t, "all of them", s, x.talk)
		}
	}
}

// TestReadFirstError is for P9.3: of several errors the first one of the chapter's order counts.
func TestReadFirstError(t *testing.T) {
	unsealed := func(s string) string { return s[:2] + bytesFrom(int(s[2])^1) + s[3:] }
	typed := func(s string) string { return patched(s, 0, "\x85") }
	cut := func(s string, size int) string { return sealed(s[:size]) }
	headless := told(api.IsIn, 0, 65, group(), "")[:19]
	for _, x := range []struct {
		name string
		s    string
		code api.Errno
	}{
		{"too short, and the sum", unsealed(short(130, 0, group()))[:7], api.ErrEnd},
		{"too short, and the type", sealed("\x85\x00\x00\x00\x00\x00\x00"), api.ErrEnd},
		{"the sum, and the type", unsealed(typed(short(130, 0, group()))), api.ErrSum},
		{"the sum, and 23 bytes", unsealed(cut(short(130, 0, group()), 23)), api.ErrSum},
		{"the sum, and 25 bytes", unsealed(sealed(short(130, 0, group()) + "x")), api.ErrSum},
		{"the sum, and the group", unsealed(short(131, 0, host())), api.ErrSum},
		{"the sum, and sources of all", unsealed(asking(none(), 1, "")), api.ErrSum},
		{"the sum, and too many sources", unsealed(asking(group(), 65, "")), api.ErrSum},
		{"the sum, and too few bytes", unsealed(asking(group(), 1, "")), api.ErrSum},
		{"the sum, and too many records", unsealed(telling(65, "")), api.ErrSum},
		{"the sum, and too few records", unsealed(telling(1, "")), api.ErrSum},
		{"the sum, and too many sources of a record", unsealed(telling(1, told(1, 0, 65, group(), ""))), api.ErrSum},
		{"the type, and 23 bytes", typed(cut(short(130, 0, group()), 23)), api.ErrKind},
		{"the type, and 25 bytes", typed(sealed(short(130, 0, group()) + "x")), api.ErrKind},
		{"the type, and the group", typed(short(131, 0, host())), api.ErrKind},
		{"the type, and too many sources", typed(asking(group(), 65, "")), api.ErrKind},
		{"the type, and too few records", typed(telling(1, "")), api.ErrKind},
		{"23 bytes, and the group", cut(short(130, 0, host()), 23), api.ErrEnd},
		{"23 bytes of a leave, and the group", cut(short(132, 0, host()), 23), api.ErrEnd},
		{"25 bytes, and the group", sealed(short(130, 0, host()) + "x"), api.ErrForm},
		{"the group, and too many sources", asking(host(), 65, ""), api.ErrForm},
		{"the group, and far too many sources", asking(host(), 65535, "abc"), api.ErrForm},
		{"the group, and too few bytes", asking(host(), 1, "abc"), api.ErrForm},
		{"all groups, and too many sources", asking(none(), 65, wide(sourceList(65)...)), api.ErrForm},
		{"all groups, too many sources, and too few bytes", asking(none(), 65, "abc"), api.ErrForm},
		{"all groups, and too few bytes", asking(none(), 1, "abc"), api.ErrForm},
		{"too many sources, and too few bytes", asking(group(), 65, wide(sourceList(64)...)), api.ErrLong},
		{"too many records, and none", telling(65, ""), api.ErrLong},
		{"too many records, and no whole one", telling(65, headless), api.ErrLong},
		{"too many records, and too many sources", telling(65, told(1, 0, 65, group(), "")), api.ErrLong},
		{"no whole record, and too many sources", telling(1, headless), api.ErrEnd},
		{"no whole record that is ignored", telling(1, "\x09\xff\xff\xff\x00\x00\x00"), api.ErrEnd},
		{"too many sources of a record, and too few bytes", telling(1, told(1, 255, 65, group(), "")), api.ErrLong},
		{"too many sources of a record that is ignored", telling(1, told(9, 255, 65, host(), "")), api.ErrLong},
		{"too few sources ahead of a record with too many", telling(2, told(1, 0, 3, group(), told(1, 0, 65, group(), ""))), api.ErrEnd},
		{"too few words ahead of a record with too many sources", telling(2, told(1, 6, 0, group(), told(1, 0, 65, group(), ""))), api.ErrEnd},
		{"too many sources ahead of a record that is not whole", telling(2, told(1, 0, 65, group(), headless)), api.ErrLong},
		{"too many sources behind a good record, and one missing", telling(3, told(1, 0, 0, group(), told(1, 0, 65, group(), ""))), api.ErrLong},
		{"no whole record behind a good one", telling(3, told(1, 0, 0, group(), headless)), api.ErrEnd},
	} {
		badly(t, x.name, x.s, x.code)
		badlyFor(t, x.name+", and an address", x.s, addr.Ip4(10, 0, 0, 1), nodes(), api.ErrArg)
	}
}

// TestReadNewMemory is for the rule 'Memory': no two lists of a message share anything.
func TestReadNewMemory(t *testing.T) {
	want := holding(holds(api.IsIn, group(), 3), holds(api.IsEx, next(), 5), holds(api.ToIn, group(), 0), holds(api.Block, group(), 30))
	s := written(want)
	got, _ := Read(s, router(), nodes())
	for i := range got.Records {
		list := got.Records[i].Sources
		for k := range list[:cap(list)] {
			list[:cap(list)][k] = none()
		}
		for k, r := range got.Records {
			if k > i && !slices.Equal(r.Sources, want.Records[k].Sources) {
				t.Errorf("record %d shares with record %d", i, k)
			}
		}
	}
	well(t, "a second time", s, want)
}
