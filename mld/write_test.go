package mld

import (
	"encoding/hex"
	"testing"

	"acequia/addr"
	"acequia/api"
)

// sumOf is the sum of the words of s, the last one with a byte 0 if it has only one, with the carries added again.
func sumOf(s string) int {
	if len(s)%2 == 1 {
		s += "\x00"
	}
	total := 0
	for i := 0; i < len(s); i += 2 {
		total += int(s[i])*256 + int(s[i+1])
	}
	for total > 65535 {
		total = total/65536 + total%65536
	}
	return total
}

// bytesFrom is the lowest byte of each number.
func bytesFrom(numbers ...int) string {
	out := ""
	for _, n := range numbers {
		out += string([]byte{byte(n)})
	}
	return out
}

// header is the header of IPv6 that the checksum takes in: both addresses, the size in four bytes, and the protocol in four.
func header(from, to api.Addr, size int) string {
	return wide(from, to) + bytesFrom(size>>24, size>>16, size>>8, size, 0, 0, 0, 58)
}

// sealedFor is s with the right checksum in its bytes 2 and 3, between these addresses.
func sealedFor(s string, from, to api.Addr) string {
	check := 65535 - sumOf(header(from, to, len(s))+s[:2]+"\x00\x00"+s[4:])
	return s[:2] + bytesFrom(check/256, check) + s[4:]
}

// sealed is the same from router to nodes.
func sealed(s string) string {
	return sealedFor(s, router(), nodes())
}

// wide is the sixteen bytes of each address.
func wide(list ...api.Addr) string {
	out := ""
	for _, a := range list {
		out += string(a.B[:])
	}
	return out
}

// code8 is the only code of 8 bits that stands for n, or -1.
func code8(n int) int {
	for c := range 256 {
		if value8(c) == n {
			return c
		}
	}
	return -1
}

// value8 is what the code c of 8 bits stands for.
func value8(c int) int {
	if c < 128 {
		return c
	}
	return (c%16 + 16) << (c%128/16 + 3)
}

// code16 is the only code of 16 bits that stands for n, or -1.
func code16(n int) int {
	for c := range 65536 {
		if value16(c) == n {
			return c
		}
	}
	return -1
}

// value16 is what the code c of 16 bits stands for.
func value16(c int) int {
	if c < 32768 {
		return c
	}
	return (c%4096 + 4096) << (c%32768/4096 + 3)
}

// plain is the words of the chapter for messages of Version 1, but for the checksum.
func plain(kind, resp int, group api.Addr) string {
	return bytesFrom(kind, 0, 0, 0, resp>>8, resp, 0, 0) + wide(group)
}

// open is what Write should tell of the good message t, but for the checksum: the words of the chapter, one after the other.
func open(t api.Talk) string {
	switch (shape{t.Version, t.Kind}) {
	case shape{1, api.TQuery}:
		return plain(130, t.Resp, t.Group)
	case shape{1, api.TReport}:
		return plain(131, 0, t.Group)
	case shape{1, api.TLeave}:
		return plain(132, 0, t.Group)
	case shape{2, api.TQuery}:
		flags := t.Robust
		if t.Quiet {
			flags += 8
		}
		return plain(130, code16(t.Resp), t.Group) + bytesFrom(flags, code8(t.Every), 0, len(t.Sources)) + wide(t.Sources...)
	}
	out := "\x8f\x00\x00\x00\x00\x00" + bytesFrom(0, len(t.Records))
	for _, r := range t.Records {
		out += bytesFrom(r.Kind, 0, 0, len(r.Sources)) + wide(r.Group) + wide(r.Sources...)
	}
	return out
}

// written is the same with the checksum, from router to nodes.
func written(t api.Talk) string {
	return sealed(open(t))
}

// TestWriteExamples is for P9.2: messages written out byte by byte.
func TestWriteExamples(t *testing.T) {
	from, to := at("fe80::1"), at("ff02::16")
	g, a, b := at("ff1e::102:304"), at("2001:db8::1"), at("2001:db8::2")
	const (
		gHex = "ff1e0000000000000000000001020304"
		aHex = "20010db8000000000000000000000001"
		bHex = "20010db8000000000000000000000002"
	)
	for _, x := range []struct {
		talk api.Talk
		want string
	}{
		{api.Talk{V6: true, Version: 1, Kind: api.TQuery, Group: none()}, "8200" + "8012" + "00000000" + "00000000000000000000000000000000"},
		{api.Talk{V6: true, Version: 1, Kind: api.TQuery, Resp: 10000, Group: g}, "8200" + "55dd" + "27100000" + gHex},
		{api.Talk{V6: true, Version: 1, Kind: api.TQuery, Resp: 65535, Group: g}, "8200" + "7ced" + "ffff0000" + gHex},
		{api.Talk{V6: true, Version: 1, Kind: api.TReport, Group: g}, "8300" + "7bed" + "00000000" + gHex},
		{api.Talk{V6: true, Version: 1, Kind: api.TLeave, Group: g}, "8400" + "7aed" + "00000000" + gHex},
		{api.Talk{V6: true, Version: 2, Kind: api.TQuery, Group: none()}, "8200" + "800e" + "00000000" + "00000000000000000000000000000000" + "00000000"},
		{api.Talk{V6: true, Version: 2, Kind: api.TQuery, Resp: 10000, Group: g, Robust: 2, Every: 125}, "8200" + "535c" + "27100000" + gHex + "027d0000"},
		{api.Talk{V6: true, Version: 2, Kind: api.TQuery, Resp: 8387584, Group: g, Quiet: true, Robust: 7, Every: 31744, Sources: []api.Addr{b, a}}, "8200" + "1153" + "ffff0000" + gHex + "0fff0002" + bHex + aHex},
		{api.Talk{V6: true, Version: 2, Kind: api.TReport}, "8f00" + "7322" + "00000000"},
		{api.Talk{V6: true, Version: 2, Kind: api.TReport, Records: []api.Record{{Kind: api.ToEx, Group: g}}}, "8f00" + "6be8" + "00000001" + "04000000" + gHex},
		{api.Talk{V6: true, Version: 2, Kind: api.TReport, Records: []api.Record{{Kind: api.IsIn, Group: g, Sources: []api.Addr{a}}, {Kind: api.Block, Group: to, Sources: []api.Addr{b, a}}}},
			"8f00" + "e057" + "00000002" + "01000001" + gHex + aHex + "06000002" + "ff020000000000000000000000000016" + bHex + aHex},
	} {
		got, err := Write(x.talk, from, to)
		if hex.EncodeToString([]byte(got)) != x.want || err != api.OK {
			t.Errorf("%+v is written as %x, %v, not %s", x.talk, got, err, x.want)
		}
	}
}

// TestWrite is for P9.2: all samples.
func TestWrite(t *testing.T) {
	for _, x := range samples() {
		if got, err := Write(x.talk, router(), nodes()); got != written(x.talk) || err != api.OK {
			t.Errorf("%s: %+v is written as %x, %v, not %x", x.name, x.talk, got, err, written(x.talk))
		}
	}
}

// TestWriteAddresses is for P9.2: the checksum takes in both addresses, of any kind with V6.
func TestWriteAddresses(t *testing.T) {
	list := []api.Addr{none(), router(), nodes(), other(), group(), host(), at("ffff:ffff:ffff:ffff:ffff:ffff:ffff:ffff"), at("::ff00:0")}
	for _, x := range shapes() {
		seen := map[string]bool{}
		for _, from := range list {
			for _, to := range list {
				got, err := Write(x.talk, from, to)
				if want := sealedFor(open(x.talk), from, to); got != want || err != api.OK {
					t.Errorf("%s from %s to %s: %x, %v, not %x", x.name, addr.Print(from), addr.Print(to), got, err, want)
				}
				seen[got] = true
			}
		}
		if len(seen) < 10 {
			t.Errorf("%s: only %d checksums", x.name, len(seen))
		}
	}
}

// TestWriteWrongAddresses is for P9.2: an address without V6 counts ahead of a message that is not good.
func TestWriteWrongAddresses(t *testing.T) {
	ill := []api.Addr{{}, addr.Ip4(10, 0, 0, 1), addr.Ip4(224, 0, 0, 1), four(router()), four(nodes())}
	talks := append(samples(), named{"nothing", api.Talk{}}, named{"no group", api.Talk{V6: true, Version: 1, Kind: api.TReport}},
		named{"igmp", api.Talk{Version: 1, Kind: api.TQuery}})
	for _, x := range talks {
		for _, a := range ill {
			for _, ends := range [][2]api.Addr{{a, nodes()}, {router(), a}, {a, a}, {a, api.Addr{}}} {
				if s, err := Write(x.talk, ends[0], ends[1]); s != "" || err != api.ErrArg {
					t.Errorf("%s from %+v to %+v: %x, %v", x.name, ends[0], ends[1], s, err)
				}
			}
		}
	}
}

// TestWriteTimes is for P9.2: each code of a Resp and of an Every, and plain numbers of two bytes in Version 1.
func TestWriteTimes(t *testing.T) {
	for c := range 65536 {
		got, err := Write(with(query2(), func(t *api.Talk) { t.Resp = value16(c) }), router(), nodes())
		if err != api.OK || got[4:8] != bytesFrom(c>>8, c, 0, 0) {
			t.Errorf("resp %d: %x, %v", value16(c), got, err)
		}
		got, err = Write(with(query1(), func(t *api.Talk) { t.Resp = c }), router(), nodes())
		if err != api.OK || got[4:8] != bytesFrom(c>>8, c, 0, 0) {
			t.Errorf("resp %d of version 1: %x, %v", c, got, err)
		}
		if c > 32768 {
			bad(t, "resp below a code", with(query2(), func(t *api.Talk) { t.Resp = value16(c) - 1 - c%7 }))
			bad(t, "resp above a code", with(query2(), func(t *api.Talk) { t.Resp = value16(c) + 1 + c%7 }))
		}
	}
	for n := range 31745 {
		x := with(query2(), func(t *api.Talk) { t.Every = n })
		if code8(n) < 0 {
			bad(t, "every", x)
			continue
		}
		if got, err := Write(x, router(), nodes()); err != api.OK || int(got[25]) != code8(n) {
			t.Errorf("every %d: %x, %v", n, got, err)
		}
	}
}

// TestWriteSizes is for P9.1 and P9.2: reports of all sizes up to the greatest one, and beyond it.
func TestWriteSizes(t *testing.T) {
	for count := range 65 {
		for total := range 90 {
			if total > 64*count {
				break
			}
			x := api.Talk{V6: true, Version: 2, Kind: api.TReport, Records: recordList(count)}
			for i, left := 0, total; left > 0; i, left = i+1, left-min(left, 64) {
				x.Records[i].Sources = sourceList(min(left, 64))
			}
			size := 8 + 20*count + 16*total
			if size > 1400 {
				bad(t, "size", x)
				continue
			}
			if got, err := Write(x, router(), nodes()); err != api.OK || len(got) != size || got != written(x) {
				t.Errorf("%d bytes: %d, %v", size, len(got), err)
			}
		}
	}
	// A query is not held to the size of a report, and can't come up to it.
	if got, err := Write(with(query2(), func(t *api.Talk) { t.Sources = sourceList(64) }), router(), nodes()); err != api.OK || len(got) != 1052 {
		t.Errorf("64 sources: %x, %v", got, err)
	}
}
