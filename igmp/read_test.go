package igmp

import (
	"encoding/hex"
	"slices"
	"strings"
	"testing"

	"acequia/addr"
	"acequia/api"
)

// start is the beginning of s, for a report of what went wrong.
func start(s string) string {
	return s[:min(len(s), 80)]
}

// badly checks that s is no message, for that reason, and that nothing else is told.
func badly(t *testing.T, name, s string, code api.Errno) {
	t.Helper()
	if got, err := Read(s); err != code || !Same(got, api.Talk{}) {
		t.Errorf("%s, %x: %+v, %v, not %v", name, start(s), got, err, code)
	}
}

// well checks that s is the message want.
func well(t *testing.T, name, s string, want api.Talk) {
	t.Helper()
	if got, err := Read(s); err != api.OK || !equal(got, want) {
		t.Errorf("%s, %x: %+v, %v, not %+v", name, start(s), got, err, want)
	}
}

// equal holds messages against each other, apart from Same.
func equal(a, b api.Talk) bool {
	if len(a.Records) != len(b.Records) || !slices.Equal(a.Sources, b.Sources) {
		return false
	}
	for i, r := range a.Records {
		if r.Kind != b.Records[i].Kind || r.Group != b.Records[i].Group || !slices.Equal(r.Sources, b.Records[i].Sources) {
			return false
		}
	}
	return a.V6 == b.V6 && a.Version == b.Version && a.Kind == b.Kind && a.Resp == b.Resp && a.Group == b.Group && a.Quiet == b.Quiet && a.Robust == b.Robust && a.Every == b.Every
}

// patched is s with the bytes from at on replaced by next, and sealed anew.
func patched(s string, at int, next string) string {
	return sealed(s[:at] + next + s[at+len(next):])
}

// short is the bytes of a message of 8 bytes.
func short(kind, resp int, group api.Addr) string {
	return sealed(bytesFrom(kind, resp, 0, 0) + four(group))
}

// asking is the bytes of a query of Version 3 that announces count sources, with these behind it.
func asking(group api.Addr, count int, behind string) string {
	return sealed(bytesFrom(0x11, 100, 0, 0) + four(group) + bytesFrom(2, 125, count/256, count) + behind)
}

// telling is the bytes of a report of Version 3 that announces count records, with these behind it.
func telling(count int, behind string) string {
	return sealed("\x22\x00\x00\x00\x00\x00" + bytesFrom(count/256, count) + behind)
}

// told is the bytes of a record that announces count sources, and words of other things behind them.
func told(kind, words, count int, group api.Addr, behind string) string {
	return bytesFrom(kind, words, count/256, count) + four(group) + behind
}

// bare is the query of Version 3 that asking makes.
func bare(group api.Addr, sources ...api.Addr) api.Talk {
	return api.Talk{Version: 3, Kind: api.TQuery, Resp: 100, Group: group, Robust: 2, Every: 125, Sources: sources}
}

// holding is a report of Version 3 with these records.
func holding(records ...api.Record) api.Talk {
	return api.Talk{Version: 3, Kind: api.TReport, Records: records}
}

// value8 is what the code c of 8 bits stands for.
func value8(c int) int {
	if c < 128 {
		return c
	}
	return (c%16 + 16) << (c%128/16 + 3)
}

// TestReadExample is the example of the chapter.
func TestReadExample(t *testing.T) {
	s, _ := hex.DecodeString("1164ee9b00000000")
	well(t, "example", string(s), api.Talk{Version: 2, Kind: api.TQuery, Resp: 100})
}

// TestReadOfWrite is for P8.4: all samples come back.
func TestReadOfWrite(t *testing.T) {
	for _, x := range samples() {
		s, _ := Write(x.talk)
		well(t, x.name, s, x.talk)
	}
}

// TestReadShort is for P8.3: fewer than 8 bytes, whatever they are.
func TestReadShort(t *testing.T) {
	for _, x := range samples() {
		s, _ := Write(x.talk)
		for size := range 8 {
			badly(t, "too short", s[:size], api.ErrEnd)
			if size > 3 {
				badly(t, "too short, and sealed", sealed(s[:size]), api.ErrEnd)
			}
		}
	}
	for size := range 8 {
		badly(t, "zeros", strings.Repeat("\x00", size), api.ErrEnd)
		badly(t, "ones", strings.Repeat("\xff", size), api.ErrEnd)
		badly(t, "another type", strings.Repeat("\x13", size), api.ErrEnd)
	}
}

// TestReadSum is for P8.3: every bit counts, those of what is ignored too.
func TestReadSum(t *testing.T) {
	for _, x := range samples() {
		s, _ := Write(x.talk)
		for _, s := range []string{s, sealed(s + "behind"), sealed(s + "beh")} {
			for at := range min(len(s), 40) {
				for bit := range 8 {
					badly(t, x.name, s[:at]+bytesFrom(int(s[at])^1<<bit)+s[at+1:], api.ErrSum)
				}
			}
		}
		badly(t, "more behind than was summed", s+"\x01", api.ErrSum)
		badly(t, "words changed places with half words", s[:2]+s[3:4]+s[2:3]+s[4:], api.ErrSum)
	}
	badly(t, "zeros", strings.Repeat("\x00", 8), api.ErrSum)
	badly(t, "no checksum", "\x11\x00\x00\x00\x00\x00\x00\x00", api.ErrSum)
}

// TestReadType is for P8.3: every first byte, with all that may be behind it.
func TestReadType(t *testing.T) {
	exists := []int{0x11, 0x12, 0x16, 0x17, 0x22}
	for first := range 256 {
		if slices.Contains(exists, first) {
			continue
		}
		for _, x := range samples() {
			s, _ := Write(x.talk)
			badly(t, "type", patched(s, 0, bytesFrom(first)), api.ErrKind)
			badly(t, "type", sealed(patched(s, 0, bytesFrom(first))+"123"), api.ErrKind)
		}
	}
	for _, x := range []struct {
		first, version, kind int
	}{{0x12, 1, api.TReport}, {0x16, 2, api.TReport}, {0x17, 2, api.TLeave}} {
		well(t, "type", short(x.first, 0, group()), api.Talk{Version: x.version, Kind: x.kind, Group: group()})
	}
}

// TestReadQueryVersion is for P8.3: queries of 8 bytes with every second byte, and of each size up to 12.
func TestReadQueryVersion(t *testing.T) {
	for resp := range 256 {
		if resp == 0 {
			well(t, "query 1", short(0x11, 0, api.Addr{}), plainQuery())
			badly(t, "query 1", short(0x11, 0, group()), api.ErrForm)
		} else {
			well(t, "query 2 of all", short(0x11, resp, api.Addr{}), api.Talk{Version: 2, Kind: api.TQuery, Resp: resp})
			well(t, "query 2", short(0x11, resp, group()), api.Talk{Version: 2, Kind: api.TQuery, Resp: resp, Group: group()})
		}
		for _, g := range []api.Addr{{}, group()} {
			s := sealed(bytesFrom(0x11, resp, 0, 0) + four(g) + "\x02\x7d\x00\x00")
			for size := 9; size < 12; size++ {
				badly(t, "no version", sealed(s[:size]), api.ErrForm)
			}
			well(t, "query 3", s, api.Talk{Version: 3, Kind: api.TQuery, Resp: value8(resp), Group: g, Robust: 2, Every: 125})
			for _, behind := range []string{"\x00", "ab", "abc", "abcd", "abcdefghi"} {
				well(t, "query 3, and more behind", sealed(s+behind), api.Talk{Version: 3, Kind: api.TQuery, Resp: value8(resp), Group: g, Robust: 2, Every: 125})
			}
		}
	}
}

// TestReadQueryFields is for P8.3: every byte 8, of which the higher bits are ignored, and every byte 9.
func TestReadQueryFields(t *testing.T) {
	for b := range 256 {
		want := bare(group(), host())
		want.Quiet, want.Robust = b/8%2 == 1, b%8
		well(t, "byte 8", patched(asking(group(), 1, four(host())), 8, bytesFrom(b)), want)
		want = bare(group(), host())
		want.Every = value8(b)
		well(t, "byte 9", patched(asking(group(), 1, four(host())), 9, bytesFrom(b)), want)
	}
}

// isGroup is whether the four bytes of a are those of a group.
func isGroup(a api.Addr) bool {
	return a.B[0] >= 224 && a.B[0] < 240
}

// TestReadGroup is for P8.3: every first byte of a Group, and zero, in messages of each shape.
func TestReadGroup(t *testing.T) {
	list := []api.Addr{{}, addr.Ip4(0, 0, 0, 1), addr.Ip4(0, 0, 1, 0), addr.Ip4(0, 1, 0, 0), addr.Ip4(239, 255, 255, 255), addr.Ip4(224, 0, 0, 0)}
	for first := range 256 {
		list = append(list, addr.Ip4(byte(first), 1, 2, 3))
	}
	for _, g := range list {
		for _, x := range []api.Talk{plainReport(), report(), leave()} {
			x.Group = g
			s := written(x)
			if isGroup(g) {
				well(t, "member", s, x)
			} else {
				badly(t, "member", s, api.ErrForm)
				badly(t, "member, and more behind", sealed(s+"behind"), api.ErrForm)
			}
		}
		if isGroup(g) || g == (api.Addr{}) {
			well(t, "query 2", short(0x11, 1, g), api.Talk{Version: 2, Kind: api.TQuery, Resp: 1, Group: g})
			well(t, "query 3", asking(g, 0, ""), bare(g))
		} else {
			badly(t, "query 2", short(0x11, 1, g), api.ErrForm)
			badly(t, "query 3", asking(g, 0, ""), api.ErrForm)
			badly(t, "query 3 with sources", asking(g, 1, four(host())), api.ErrForm)
		}
		if g != (api.Addr{}) {
			badly(t, "query 1", short(0x11, 0, g), api.ErrForm)
		}
	}
}

// TestReadMembers is for P8.3: in reports and leaves of 8 bytes the second byte is ignored, and so is what follows.
func TestReadMembers(t *testing.T) {
	for _, x := range []api.Talk{plainReport(), report(), leave()} {
		for b := range 256 {
			well(t, "second byte", patched(written(x), 1, bytesFrom(b)), x)
		}
		for size := range 40 {
			well(t, "more behind", sealed(written(x)+strings.Repeat("\xa5", size)), x)
		}
	}
}

// TestReadSources is for P8.3: as many sources as are announced, fewer bytes, and more.
func TestReadSources(t *testing.T) {
	for _, count := range []int{0, 1, 2, 3, 63, 64} {
		list := four(sources(count)...)
		well(t, "sources", asking(group(), count, list), bare(group(), sources(count)...))
		for _, behind := range []string{"\x00", "ab", "abc", "abcd", list + "abcd", strings.Repeat("x", 1500)} {
			well(t, "sources, and more behind", asking(group(), count, list+behind), bare(group(), sources(count)...))
		}
		for size := range list {
			badly(t, "fewer than announced", asking(group(), count, list[:size]), api.ErrEnd)
		}
	}
	for _, count := range []int{65, 66, 127, 128, 255, 256, 257, 320, 32768, 65535} {
		badly(t, "too many", asking(group(), count, four(sources(65)...)), api.ErrLong)
		badly(t, "too many, and none there", asking(group(), count, ""), api.ErrLong)
		badly(t, "too many, and one byte there", asking(group(), count, "x"), api.ErrLong)
		badly(t, "too many, and all there", asking(group(), count, strings.Repeat("abcd", count)), api.ErrLong)
	}
	for _, count := range []int{1, 2, 64, 65, 255, 256, 512, 65535} {
		badly(t, "of all", asking(api.Addr{}, count, four(sources(min(count, 65))...)), api.ErrForm)
		badly(t, "of all, and none there", asking(api.Addr{}, count, ""), api.ErrForm)
		badly(t, "of all, and three bytes there", asking(api.Addr{}, count, "abc"), api.ErrForm)
	}
	odd := []api.Addr{{}, group(), host(), host(), addr.Ip4(255, 255, 255, 255)}
	well(t, "odd sources", asking(group(), 5, four(odd...)), bare(group(), odd...))
}

// TestReadRecordSources is for P8.3: the same, in records.
func TestReadRecordSources(t *testing.T) {
	first := record(api.IsIn, next(), 1)
	ahead := told(api.IsIn, 0, 1, next(), four(first.Sources...))
	for _, count := range []int{0, 1, 2, 63, 64} {
		r := record(api.ToEx, group(), count)
		bytes := told(api.ToEx, 0, count, group(), four(r.Sources...))
		well(t, "one record", telling(1, bytes), holding(r))
		well(t, "the second record", telling(2, ahead+bytes), holding(first, r))
		well(t, "a record behind", telling(2, bytes+ahead), holding(r, first))
		well(t, "more behind", telling(1, bytes+ahead), holding(r))
		well(t, "one byte behind", telling(1, bytes+"x"), holding(r))
		for size := range bytes {
			badly(t, "fewer than announced", telling(1, bytes[:size]), api.ErrEnd)
			badly(t, "fewer than announced of the second record", telling(2, ahead+bytes[:size]), api.ErrEnd)
		}
		badly(t, "no second record", telling(2, bytes), api.ErrEnd)
	}
	for _, count := range []int{65, 66, 128, 255, 256, 257, 32768, 65535} {
		for _, kind := range []int{api.IsIn, api.Block, 0, 7, 255} {
			for _, g := range []api.Addr{group(), {}, host()} {
				for _, behind := range []string{"", "abc", four(sources(65)...), four(sources(64)...) + ahead} {
					bytes := told(kind, 0, count, g, behind)
					badly(t, "too many", telling(1, bytes), api.ErrLong)
					badly(t, "too many in the second record", telling(2, ahead+bytes), api.ErrLong)
					badly(t, "too many ahead of others", telling(64, bytes), api.ErrLong)
				}
			}
		}
	}
}

// TestReadWords is for P8.3: the words behind the sources of a record are passed over, as many as are announced, and no fewer.
func TestReadWords(t *testing.T) {
	last := record(api.Block, next(), 2)
	behind := told(api.Block, 0, 2, next(), four(last.Sources...))
	for words := range 256 {
		other := strings.Repeat("\x01\x02\x03\xff", words)
		for _, count := range []int{0, 1, 64} {
			r := record(api.IsEx, group(), count)
			bytes := told(api.IsEx, words, count, group(), four(r.Sources...)+other)
			well(t, "words", telling(1, bytes), holding(r))
			well(t, "words ahead of a record", telling(2, bytes+behind), holding(r, last))
			well(t, "words of a record that is ignored", telling(2, told(9, words, count, group(), four(r.Sources...)+other)+behind), holding(last))
			for less := 1; less <= min(4*words, 9); less++ {
				badly(t, "fewer words", telling(1, bytes[:len(bytes)-less]), api.ErrEnd)
			}
			if words > 0 {
				badly(t, "no words", telling(1, bytes[:len(bytes)-4*words]), api.ErrEnd)
			}
		}
	}
}

// TestReadRecords is for P8.3: as many records as are announced, fewer, and more.
func TestReadRecords(t *testing.T) {
	for _, count := range []int{0, 1, 2, 6, 63, 64} {
		bytes := written(holding(records(count)...))[8:]
		well(t, "records", telling(count, bytes), holding(records(count)...))
		well(t, "records, and another behind", telling(count, bytes+told(api.ToIn, 0, 0, next(), "")), holding(records(count)...))
		well(t, "records, and some bytes behind", telling(count, bytes+"abc"), holding(records(count)...))
		for size := range bytes {
			badly(t, "fewer than announced", telling(count, bytes[:size]), api.ErrEnd)
		}
	}
	for _, count := range []int{65, 66, 128, 255, 256, 257, 320, 32768, 65535} {
		badly(t, "too many", telling(count, written(holding(records(65)...))[8:]), api.ErrLong)
		badly(t, "too many, and none there", telling(count, ""), api.ErrLong)
		badly(t, "too many, and some bytes there", telling(count, "abc"), api.ErrLong)
		badly(t, "too many, and all are ignored", telling(count, strings.Repeat(told(0, 0, 0, group(), ""), 65)), api.ErrLong)
		badly(t, "too many, and all are there", telling(count, strings.Repeat(told(1, 0, 0, group(), ""), count)), api.ErrLong)
	}
	// What is read may be longer than what may be written.
	long, bytes := holding(), ""
	for i := range 64 {
		r := record(1+i%6, group(), 64)
		long.Records = append(long.Records, r)
		bytes += told(r.Kind, 0, 64, group(), four(r.Sources...))
	}
	well(t, "as much as there may be", telling(64, bytes), long)
	bad(t, "as much as there may be", long)
}

// TestReadIgnoredRecords is for P8.3: records of every kind, and of groups that are none, among others.
func TestReadIgnoredRecords(t *testing.T) {
	first, last := record(api.IsIn, next(), 1), record(api.Block, next(), 2)
	ahead, behind := told(api.IsIn, 0, 1, next(), four(first.Sources...)), told(api.Block, 0, 2, next(), four(last.Sources...))
	check := func(kind int, g api.Addr) {
		for _, count := range []int{0, 1, 64} {
			for _, words := range []int{0, 1} {
				r := record(kind, g, count)
				bytes := told(kind, words, count, g, four(r.Sources...)+strings.Repeat("word", words))
				if kind >= 1 && kind <= 6 && isGroup(g) {
					well(t, "in the middle", telling(3, ahead+bytes+behind), holding(first, r, last))
					continue
				}
				well(t, "ignored", telling(1, bytes), holding())
				well(t, "ignored in the middle", telling(3, ahead+bytes+behind), holding(first, last))
				well(t, "ignored at the end", telling(2, ahead+bytes), holding(first))
				well(t, "ignored as often as there may be", telling(64, strings.Repeat(bytes, 64)), holding())
				for size := range bytes {
					badly(t, "ignored, and not all there", telling(2, ahead+bytes[:size]), api.ErrEnd)
				}
			}
		}
	}
	for b := range 256 {
		check(b, group())
		check(api.ToIn, addr.Ip4(byte(b), 1, 2, 3))
	}
	check(api.ToIn, api.Addr{})
	check(0, api.Addr{})
	check(7, host())
	check(1, group())
}

// TestReadZeros is for P8.3: what is specified as 0 is ignored.
func TestReadZeros(t *testing.T) {
	for b := range 256 {
		s := written(fullReport())
		well(t, "byte 1 of a report", patched(s, 1, bytesFrom(b)), fullReport())
		well(t, "byte 4 of a report", patched(s, 4, bytesFrom(b)), fullReport())
		well(t, "byte 5 of a report", patched(s, 5, bytesFrom(b)), fullReport())
		well(t, "all of them", patched(patched(s, 1, bytesFrom(b)), 4, bytesFrom(255-b, b)), fullReport())
	}
}

// TestReadFirstError is for P8.3: of several errors the first one of the chapter's order counts.
func TestReadFirstError(t *testing.T) {
	unsealed := func(s string) string { return s[:2] + bytesFrom(int(s[2])^1) + s[3:] }
	typed := func(s string) string { return patched(s, 0, "\x13") }
	headless := told(api.IsIn, 0, 65, group(), "")[:7]
	for _, x := range []struct {
		name string
		s    string
		code api.Errno
	}{
		{"too short, and the sum", unsealed(short(0x11, 0, group()))[:7], api.ErrEnd},
		{"too short, and the type", sealed("\x13\x00\x00\x00\x00\x00\x00"), api.ErrEnd},
		{"the sum, and the type", unsealed(typed(short(0x11, 0, group()))), api.ErrSum},
		{"the sum, and 9 bytes", unsealed(sealed(short(0x11, 0, group()) + "x")), api.ErrSum},
		{"the sum, and the group", unsealed(short(0x12, 0, host())), api.ErrSum},
		{"the sum, and sources of all", unsealed(asking(api.Addr{}, 1, "")), api.ErrSum},
		{"the sum, and too many sources", unsealed(asking(group(), 65, "")), api.ErrSum},
		{"the sum, and too few bytes", unsealed(asking(group(), 1, "")), api.ErrSum},
		{"the sum, and too many records", unsealed(telling(65, "")), api.ErrSum},
		{"the sum, and too few records", unsealed(telling(1, "")), api.ErrSum},
		{"the sum, and too many sources of a record", unsealed(telling(1, told(1, 0, 65, group(), ""))), api.ErrSum},
		{"the type, and 9 bytes", typed(sealed(short(0x11, 0, group()) + "x")), api.ErrKind},
		{"the type, and the group", typed(short(0x11, 0, host())), api.ErrKind},
		{"the type, and too many sources", typed(asking(group(), 65, "")), api.ErrKind},
		{"the type, and too few records", typed(telling(1, "")), api.ErrKind},
		{"9 bytes, and the group", sealed(short(0x11, 0, host()) + "x"), api.ErrForm},
		{"the group, and too many sources", asking(host(), 65, ""), api.ErrForm},
		{"the group, and far too many sources", asking(host(), 65535, "abc"), api.ErrForm},
		{"the group, and too few bytes", asking(host(), 1, "abc"), api.ErrForm},
		{"all groups, and too many sources", asking(api.Addr{}, 65, four(sources(65)...)), api.ErrForm},
		{"all groups, too many sources, and too few bytes", asking(api.Addr{}, 65, "abc"), api.ErrForm},
		{"all groups, and too few bytes", asking(api.Addr{}, 1, "abc"), api.ErrForm},
		{"too many sources, and too few bytes", asking(group(), 65, four(sources(64)...)), api.ErrLong},
		{"too many records, and none", telling(65, ""), api.ErrLong},
		{"too many records, and no whole one", telling(65, headless), api.ErrLong},
		{"too many records, and too many sources", telling(65, told(1, 0, 65, group(), "")), api.ErrLong},
		{"no whole record, and too many sources", telling(1, headless), api.ErrEnd},
		{"no whole record that is ignored", telling(1, "\x09\xff\xff\xff\x00\x00\x00"), api.ErrEnd},
		{"too many sources of a record, and too few bytes", telling(1, told(1, 255, 65, group(), "")), api.ErrLong},
		{"too many sources of a record that is ignored", telling(1, told(9, 255, 65, host(), "")), api.ErrLong},
		{"too few sources ahead of a record with too many", telling(2, told(1, 0, 3, group(), told(1, 0, 65, group(), ""))), api.ErrEnd},
		{"too few words ahead of a record with too many sources", telling(2, told(1, 3, 0, group(), told(1, 0, 65, group(), ""))), api.ErrEnd},
		{"too many sources ahead of a record that is not whole", telling(2, told(1, 0, 65, group(), headless)), api.ErrLong},
		{"too many sources behind a good record, and one missing", telling(3, told(1, 0, 0, group(), told(1, 0, 65, group(), ""))), api.ErrLong},
		{"no whole record behind a good one", telling(3, told(1, 0, 0, group(), headless)), api.ErrEnd},
	} {
		badly(t, x.name, x.s, x.code)
	}
}

// TestReadNewMemory is for the rule 'Memory': no two lists of a message share anything.
func TestReadNewMemory(t *testing.T) {
	want := holding(record(api.IsIn, group(), 3), record(api.IsEx, next(), 5), record(api.ToIn, group(), 0), record(api.Block, group(), 64))
	s := written(want)
	got, _ := Read(s)
	for i := range got.Records {
		list := got.Records[i].Sources
		for k := range list[:cap(list)] {
			list[:cap(list)][k] = six(host())
		}
		for k, r := range got.Records {
			if k > i && !slices.Equal(r.Sources, want.Records[k].Sources) {
				t.Errorf("record %d shares with record %d", i, k)
			}
		}
	}
	well(t, "a second time", s, want)
}
