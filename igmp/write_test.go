package igmp

import (
	"encoding/hex"
	"strings"
	"testing"

	"acequia/addr"
	"acequia/api"
)

// sumOf is the sum of the words of s, the last one with a byte 0 if it has only one, with the carries added again.
func sumOf(s string) int {
	if len(s)%2 == 1 {
		s += "\x00"
	}
	total := 0
	for i := 0; i < len(s); i += 2 {
		total += int(s[i])*256 + int(s[i+1])
	}
	for total > 65535 {
		total = total/65536 + total%65536
	}
	return total
}

// bytesFrom is the lowest byte of each number.
func bytesFrom(numbers ...int) string {
	out := ""
	for _, n := range numbers {
		out += string([]byte{byte(n)})
	}
	return out
}

// sealed is s with the right checksum in its bytes 2 and 3.
func sealed(s string) string {
	check := 65535 - sumOf(s[:2]+"\x00\x00"+s[4:])
	return s[:2] + bytesFrom(check/256, check) + s[4:]
}

// four is the four bytes of each address.
func four(list ...api.Addr) string {
	out := ""
	for _, a := range list {
		out += string(a.B[:4])
	}
	return out
}

// code8 is the only code of 8 bits that stands for n.
func code8(n int) int {
	for c := range 128 {
		if c == n {
			return c
		}
		if (c%16+16)<<(c/16+3) == n {
			return 128 + c
		}
	}
	return -1
}

// written is what Write should tell of the good message t: the words of the chapter, one after the other.
func written(t api.Talk) string {
	switch (shape{t.Version, t.Kind}) {
	case shape{1, api.TQuery}:
		return sealed("\x11\x00\x00\x00" + four(t.Group))
	case shape{1, api.TReport}:
		return sealed("\x12\x00\x00\x00" + four(t.Group))
	case shape{2, api.TQuery}:
		return sealed(bytesFrom(0x11, t.Resp, 0, 0) + four(t.Group))
	case shape{2, api.TReport}:
		return sealed("\x16\x00\x00\x00" + four(t.Group))
	case shape{2, api.TLeave}:
		return sealed("\x17\x00\x00\x00" + four(t.Group))
	case shape{3, api.TQuery}:
		flags := t.Robust
		if t.Quiet {
			flags += 8
		}
		return sealed(bytesFrom(0x11, code8(t.Resp), 0, 0) + four(t.Group) + bytesFrom(flags, code8(t.Every), 0, len(t.Sources)) + four(t.Sources...))
	}
	out := "\x22\x00\x00\x00\x00\x00" + bytesFrom(0, len(t.Records))
	for _, r := range t.Records {
		out += bytesFrom(r.Kind, 0, 0, len(r.Sources)) + four(r.Group) + four(r.Sources...)
	}
	return sealed(out)
}

// TestWriteExamples is for P8.2: messages written out byte by byte.
func TestWriteExamples(t *testing.T) {
	a, b, c := addr.Ip4(10, 0, 0, 1), addr.Ip4(10, 0, 0, 2), addr.Ip4(192, 168, 1, 255)
	for _, x := range []struct {
		talk api.Talk
		want string
	}{
		{api.Talk{Version: 1, Kind: api.TQuery}, "1100eeff00000000"},
		{api.Talk{Version: 1, Kind: api.TReport, Group: addr.Ip4(239, 1, 2, 3)}, "1200fcfaef010203"},
		{api.Talk{Version: 2, Kind: api.TQuery, Resp: 100}, "1164ee9b00000000"},
		{api.Talk{Version: 2, Kind: api.TQuery, Resp: 1}, "1101eefe00000000"},
		{api.Talk{Version: 2, Kind: api.TQuery, Resp: 255, Group: addr.Ip4(239, 1, 2, 3)}, "11fffcfbef010203"},
		{api.Talk{Version: 2, Kind: api.TReport, Group: addr.Ip4(239, 1, 2, 3)}, "1600f8faef010203"},
		{api.Talk{Version: 2, Kind: api.TLeave, Group: addr.Ip4(239, 1, 2, 3)}, "1700f7faef010203"},
		{api.Talk{Version: 3, Kind: api.TQuery}, "1100eeff0000000000000000"},
		{api.Talk{Version: 3, Kind: api.TQuery, Resp: 100, Robust: 2, Every: 125}, "1164ec1e00000000027d0000"},
		{api.Talk{Version: 3, Kind: api.TQuery, Resp: 248, Robust: 7, Every: 31744, Quiet: true, Group: addr.Ip4(239, 1, 2, 3), Sources: []api.Addr{a, b}},
			"118fd967ef0102030fff00020a0000010a000002"},
		{api.Talk{Version: 3, Kind: api.TReport}, "2200ddff00000000"},
		{api.Talk{Version: 3, Kind: api.TReport, Records: []api.Record{{Kind: api.ToEx, Group: addr.Ip4(239, 1, 2, 3)}}}, "2200e8f90000000104000000ef010203"},
		{api.Talk{Version: 3, Kind: api.TReport, Records: []api.Record{{Kind: api.IsIn, Group: addr.Ip4(239, 1, 2, 3), Sources: []api.Addr{c}}, {Kind: api.Block, Group: addr.Ip4(224, 0, 0, 251), Sources: []api.Addr{b, a}}}},
			"22002e4f0000000201000001ef010203c0a801ff06000002e00000fb0a0000020a000001"},
	} {
		got, err := Write(x.talk)
		if hex.EncodeToString([]byte(got)) != x.want || err != api.OK {
			t.Errorf("%+v is written as %x, %v, not %s", x.talk, got, err, x.want)
		}
	}
}

// TestWrite is for P8.2: all samples.
func TestWrite(t *testing.T) {
	for _, x := range samples() {
		if got, err := Write(x.talk); got != written(x.talk) || err != api.OK {
			t.Errorf("%s: %+v is written as %x, %v, not %x", x.name, x.talk, got, err, written(x.talk))
		}
	}
}

// TestWriteTimes is for P8.2: each code of a Resp and of an Every.
func TestWriteTimes(t *testing.T) {
	for n := range 31745 {
		x := with(fullQuery(), func(t *api.Talk) { t.Resp, t.Every = n, 31744 })
		y := with(fullQuery(), func(t *api.Talk) { t.Resp, t.Every = 31744, n })
		if code8(n) < 0 {
			bad(t, "resp", x)
			bad(t, "every", y)
			continue
		}
		if got, err := Write(x); err != api.OK || int(got[1]) != code8(n) || got[9] != 255 {
			t.Errorf("resp %d: %x, %v", n, got, err)
		}
		if got, err := Write(y); err != api.OK || int(got[9]) != code8(n) || got[1] != 255 {
			t.Errorf("every %d: %x, %v", n, got, err)
		}
	}
	for n := 1; n < 256; n++ {
		if got, err := Write(with(query(), func(t *api.Talk) { t.Resp = n })); err != api.OK || int(got[1]) != n {
			t.Errorf("resp %d: %x, %v", n, got, err)
		}
	}
}

// TestWriteSizes is for P8.1 and P8.2: reports of all sizes up to the greatest one, and beyond it.
func TestWriteSizes(t *testing.T) {
	for bytes := 16; bytes <= 1400; bytes += 4 {
		if got, err := Write(sized(bytes)); err != api.OK || len(got) != bytes || got != written(sized(bytes)) {
			t.Errorf("%d bytes: %d, %v", bytes, len(got), err)
		}
	}
	for bytes := 1404; bytes < 3000; bytes += 4 {
		bad(t, "size", sized(bytes))
	}
	if got, err := Write(api.Talk{Version: 3, Kind: api.TReport, Records: records(64)}); err != api.OK || len(got) != 520 || !strings.HasPrefix(got[4:], "\x00\x00\x00\x40") {
		t.Errorf("64 records: %x, %v", got, err)
	}
	// A query is not held to the size of a report, and can't come up to it.
	if got, err := Write(with(fullQuery(), func(t *api.Talk) { t.Sources = sources(64) })); err != api.OK || len(got) != 268 {
		t.Errorf("64 sources: %x, %v", got, err)
	}
}

// TestWriteIsSealed is for P8.2: the sum of all bytes is the one of a good text.
func TestWriteIsSealed(t *testing.T) {
	for _, x := range samples() {
		if got, _ := Write(x.talk); sumOf(got) != 65535 {
			t.Errorf("%s: %x", x.name, got)
		}
	}
}
