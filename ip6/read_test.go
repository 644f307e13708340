package ip6

import (
	"strings"
	"testing"

	"acequia/api"
)

// badly checks that s is no packet, for that reason, and that nothing else is told.
func badly(t *testing.T, name, s string, code api.Errno) {
	t.Helper()
	if got, err := Read(s); got != (api.Ip6{}) || err != code {
		t.Errorf("%s, %x: %+v, %v, not %v", name, start(s), brief(got), err, code)
	}
}

// well checks that s is the packet p.
func well(t *testing.T, name, s string, p api.Ip6) {
	t.Helper()
	if got, err := Read(s); got != p || err != api.OK {
		t.Errorf("%s, %x: %+v, %v, not %+v", name, start(s), brief(got), err, brief(p))
	}
}

// patched is s with the bytes from at on replaced by next.
func patched(s string, at int, next string) string {
	return s[:at] + next + s[at+len(next):]
}

// announcing is s with that many bytes announced after the first 40.
func announcing(s string, size int) string {
	return patched(s, 4, bytesFrom(size/256, size))
}

// packet is the bytes of a packet of which byte 6 is next, with all that follows the first 40 bytes.
func packet(next int, behind string) string {
	head := "\x6c\x11\x23\x45\x00\x00" + bytesFrom(next, 64) + string(host.B[:]) + string(group.B[:])
	return announcing(head, len(behind)) + behind
}

// optioned is the bytes of a packet with this list of options, which fills its units, and this body.
func optioned(list, body string) string {
	return packet(0, bytesFrom(17, (len(list)+2)/8-1)+list+body)
}

// TestReadFields is for P6.3: each field from its own bytes.
func TestReadFields(t *testing.T) {
	rising := api.Ip6{Class: 0x12, Flow: 0x34567, Next: 9, Hop: 10, From: api.Addr{V6: true}, To: api.Addr{V6: true}, Body: "abc"}
	falling := api.Ip6{Class: 0xfe, Flow: 0xdcba9, Next: 246, Hop: 245, From: api.Addr{V6: true}, To: api.Addr{V6: true}, Alert: true, Body: "abc"}
	for i := range 16 {
		rising.From.B[i], rising.To.B[i] = byte(11+i), byte(27+i)
		falling.From.B[i], falling.To.B[i] = byte(244-i), byte(228-i)
	}
	up, down := "", ""
	for i := range 32 {
		up += bytesFrom(11 + i)
		down += bytesFrom(244 - i)
	}
	well(t, "rising", "\x61\x23\x45\x67\x00\x03\x09\x0a"+up+"abc", rising)
	well(t, "falling", "\x6f\xed\xcb\xa9\x00\x0b\x00\xf5"+down+"\xf6\x00\x05\x02\x00\x00\x01\x00abc", falling)
}

// TestReadEveryByte is for P6.3: each value of each byte of the header tells what it should, and nothing else.
func TestReadEveryByte(t *testing.T) {
	for b := range 256 {
		one := bytesFrom(b)
		for i := 8; i < 40; i++ {
			p := plain()
			if i < 24 {
				p.From.B[i-8] = byte(b)
			} else {
				p.To.B[i-24] = byte(b)
			}
			well(t, "an address", patched(packet(17, "body!"), i, one), p)
		}
		class, low, lowest, hop := plain(), plain(), plain(), plain()
		class.Class, class.Flow = 0xc0+b/16, b%16*65536+0x2345
		low.Flow, lowest.Flow, hop.Hop = 0x10045+b*256, 0x12300+b, b
		well(t, "byte 1", patched(packet(17, "body!"), 1, one), class)
		well(t, "byte 2", patched(packet(17, "body!"), 2, one), low)
		well(t, "byte 3", patched(packet(17, "body!"), 3, one), lowest)
		well(t, "byte 7", patched(packet(17, "body!"), 7, one), hop)
	}
}

// TestReadTooShort is for P6.3: each size below that of a header, whatever the bytes are.
func TestReadTooShort(t *testing.T) {
	whole, _ := Write(alerted())
	for _, all := range []string{whole, strings.Repeat("\x00", 40), strings.Repeat("\xff", 40), strings.Repeat("\x60", 40), strings.Repeat("\x45", 40)} {
		for size := range 40 {
			badly(t, "too short", all[:size], api.ErrEnd)
		}
	}
	s := packet(17, "")
	badly(t, "39 bytes", s[:39], api.ErrEnd)
	well(t, "40 bytes", s, bodied(plain(), 0))
}

// TestReadFirstByte is for P6.3: every first byte.
func TestReadFirstByte(t *testing.T) {
	for first := range 256 {
		s := bytesFrom(first) + packet(17, "body!")[1:]
		if first/16 != 6 {
			badly(t, "version", s, api.ErrKind)
			continue
		}
		p := plain()
		p.Class = first%16*16 + 1
		well(t, "version", s, p)
	}
}

// TestReadAnnounced is for P6.3: from no bytes up to what is there, and beyond.
func TestReadAnnounced(t *testing.T) {
	s := packet(17, "0123456789")
	for size := range 600 {
		x := announcing(s, size)
		if size > 10 {
			badly(t, "beyond the end", x, api.ErrEnd)
			continue
		}
		p := plain()
		p.Body = "0123456789"[:size]
		well(t, "announced", x, p)
	}
	for _, size := range []int{2560, 32768, 65280, 65535} {
		badly(t, "far beyond the end", announcing(s, size), api.ErrEnd)
	}
	for size := 40; size < 53; size++ {
		badly(t, "options beyond the end", optioned(alertOption+"\x01\x00", "01234")[:size], api.ErrEnd)
	}
}

// TestReadBehind is for P6.3: what follows the packet is ignored.
func TestReadBehind(t *testing.T) {
	p := plain()
	p.Alert = true
	for _, behind := range []string{"", "\x00", "\xff", "body", alertOption, packet(17, "more"), body(70000)} {
		well(t, "behind", packet(17, "body!")+behind, plain())
		well(t, "behind, with options", optioned(alertOption+"\x01\x00", "body!")+behind, p)
	}
}

// TestReadNext is for P6.3: where byte 6 is not 0, nothing is an option.
func TestReadNext(t *testing.T) {
	for next := 1; next < 256; next++ {
		for _, body := range []string{"", "\x00", "body!", "\x3a\x00\x05\x02\x00\x00\x01\x00", "\x00\x00\x00\x00\x00\x00\x00\x00", "\x3a\xff\xc2"} {
			p := plain()
			p.Next, p.Body = next, body
			well(t, "next", packet(next, body), p)
		}
	}
}

// TestReadNextOfOptions is for P6.3: where byte 6 is 0, the first byte of the options is Next, and may not be 0.
func TestReadNextOfOptions(t *testing.T) {
	for next := range 256 {
		for _, list := range []string{alertOption + "\x01\x00", "\x00\x00\x00\x00\x00\x00"} {
			s := patched(optioned(list, "body!"), 40, bytesFrom(next))
			if next == 0 {
				badly(t, "next", s, api.ErrForm)
				continue
			}
			p := plain()
			p.Next, p.Alert = next, list[0] != 0
			well(t, "next", s, p)
		}
	}
}

// TestReadFewForOptions is for P6.3: fewer than 8 bytes announced where options follow, with and without others behind them.
func TestReadFewForOptions(t *testing.T) {
	for _, behind := range []string{"\x11\x00" + alertOption + "\x01\x00", "\x11\x00\x00\x00\x00\x00\x00\x00", "\x00\x00\x00\x00\x00\x00\x00\x00", "\x11\x01" + alertOption + "\x01\x00", "\x11\xff" + alertOption + "\x01\x00"} {
		for size := range 8 {
			badly(t, "few", packet(0, behind[:size]), api.ErrForm)
			badly(t, "few, and more behind", packet(0, behind[:size])+behind[size:], api.ErrForm)
			badly(t, "few, and a lot behind", packet(0, behind[:size])+body(3000), api.ErrForm)
		}
	}
}

// TestReadUnits is for P6.3: each second byte of the options, with as many bytes as it asks, fewer, and more.
func TestReadUnits(t *testing.T) {
	for more := range 256 {
		size := 8 * (more + 1)
		options := bytesFrom(17, more) + alertOption + strings.Repeat("\x00", size-6)
		p := plain()
		p.Alert = true
		for _, body := range []string{"", "x", "body!", body(1400)} {
			p.Body = body
			well(t, "as many", packet(0, options+body), p)
			well(t, "as many, and more behind", packet(0, options+body)+"behind", p)
		}
		for _, less := range []int{1, 2, 7, 8, size / 2, size - 8, size - 1, size} {
			if less > 0 {
				x := packet(0, options[:size-less])
				badly(t, "fewer", x, api.ErrForm)
				badly(t, "fewer, and enough behind", x+body(3000), api.ErrForm)
			}
		}
	}
}

// TestReadAlert is for P6.3: an alert as the first option, as a later one, as the last one, and none; whatever the body is.
func TestReadAlert(t *testing.T) {
	for _, x := range []struct {
		name, list string
		alert      bool
	}{
		{"first", alertOption + "\x01\x00", true},
		{"last", "\x01\x00" + alertOption, true},
		{"behind bytes 0", "\x00\x00" + alertOption, true},
		{"in the middle", "\x00" + alertOption + "\x00", true},
		{"first of two units", alertOption + "\x07\x08abcdefgh", true},
		{"last of two units", "\x07\x08abcdefgh" + alertOption, true},
		{"over two units", "\x01\x03abc" + alertOption + "\x01\x03abc", true},
		{"last of the most units", "\x01\xff" + body(255) + strings.Repeat("\x00", 2046-257-4) + alertOption, true},
		{"two", alertOption + "\x00" + alertOption + "\x00\x00\x00\x00\x00", true},
		{"none", "\x01\x04\x00\x00\x00\x00", false},
		{"bytes 0 alone", "\x00\x00\x00\x00\x00\x00", false},
		{"another of its kind", "\x05\x02\x00\x01\x01\x00", false},
		{"another length", "\x05\x04\x00\x00\x00\x00", false},
		{"inside an option", "\x07\x04" + alertOption, false},
		{"inside an option of two units", "\x07\x0c" + alertOption + alertOption + alertOption, false},
	} {
		p := plain()
		p.Alert = x.alert
		well(t, x.name, optioned(x.list, p.Body), p)
		// What stands behind the options is none of them.
		p.Body = alertOption
		well(t, x.name, optioned(x.list, p.Body), p)
		p.Body = "\xc2\xff"
		well(t, x.name, optioned(x.list, p.Body), p)
	}
	// The two bytes ahead of the list are none of it either.
	p := bodied(plain(), 0)
	p.Next = 5
	well(t, "ahead of the list", packet(0, "\x05\x02\x00\x00\x00\x00\x00\x00"+strings.Repeat("\x00", 16)), p)
}

// TestReadWrongOptions is for P6.3: each error of Options.
func TestReadWrongOptions(t *testing.T) {
	for _, x := range []struct {
		name, list string
		code       api.Errno
	}{
		{"a length is missing", "\x00\x00\x00\x00\x00\x07", api.ErrForm},
		{"a length is missing behind an alert", alertOption + "\x00\x07", api.ErrForm},
		{"one more than is left", "\x07\x05abcd", api.ErrForm},
		{"one more than is left behind an alert", alertOption + "\x01\x01", api.ErrForm},
		{"one more than is left of an alert", "\x00\x00\x00\x05\x02\x00", api.ErrForm},
		{"one more than is left of two units", "\x07\x0dabcdefghijkl", api.ErrForm},
		{"act 1", "\x40\x04abcd", api.ErrKind},
		{"act 2", "\x80\x00\x00\x00\x00\x00", api.ErrKind},
		{"act 3, a jumbo's option", "\xc2\x04\x00\x01\x00\x00", api.ErrKind},
		{"act 3 behind an alert", alertOption + "\xc2\x00", api.ErrKind},
		{"act 1, and too great a length", "\x40\x05abcd", api.ErrForm},
		{"act 3, and no length", "\x00\x00\x00\x00\x00\xc2", api.ErrForm},
		{"a kind ahead of a missing length", "\xc2\x03abc\x07", api.ErrKind},
		{"too great a length ahead of a kind", "\x07\x05\xc2\x00\x00\x00", api.ErrForm},
	} {
		for _, size := range []int{0, 5, 1400, 1401} {
			badly(t, x.name, optioned(x.list, body(size)), x.code)
			badly(t, x.name, optioned(x.list, body(size))+"behind", x.code)
		}
	}
}

// TestReadLong is for P6.3: the body is what is left behind the options.
func TestReadLong(t *testing.T) {
	for _, size := range []int{1352, 1392, 1399, 1400} {
		p := bodied(plain(), size)
		well(t, "long", packet(17, p.Body), p)
		well(t, "long, and more behind", packet(17, p.Body)+body(1401), p)
		for _, list := range []string{"\x01\x04abcd", "\x00\x00\x07\x0aabcdefghij", strings.Repeat("\x00", 2046)} {
			well(t, "long, with options", optioned(list, p.Body), p)
			well(t, "long, with options, and more behind", optioned(list, p.Body)+body(1401), p)
		}
	}
	for _, size := range []int{1401, 1402, 1408, 1500, 2048, 65535 - 2048} {
		badly(t, "too long", packet(17, body(size)), api.ErrLong)
		badly(t, "too long, and more behind", packet(17, body(size))+"x", api.ErrLong)
		for _, list := range []string{alertOption + "\x01\x00", "\x01\x04abcd", strings.Repeat("\x00", 2046)} {
			badly(t, "too long, with options", optioned(list, body(size)), api.ErrLong)
			badly(t, "too long, with options, and more behind", optioned(list, body(size))+"x", api.ErrLong)
		}
	}
	badly(t, "the longest", packet(17, body(65535)), api.ErrLong)
}

// TestReadFirstError is for P6.3: of several errors the first one of the chapter's list counts.
func TestReadFirstError(t *testing.T) {
	const wrongLength, wrongKind = "\x07\x05abcd", "\xc2\x04abcd"
	long := body(1401)
	noNext := func(s string) string { return patched(s, 40, "\x00") }
	for _, x := range []struct {
		name string
		s    string
		code api.Errno
	}{
		{"too short, and all else", strings.Repeat("\x45", 39), api.ErrEnd},
		{"too short, and a kind", "\x45" + packet(17, "")[1:39], api.ErrEnd},
		{"a kind, and more announced", "\x45" + announcing(packet(17, "body!"), 6)[1:], api.ErrKind},
		{"a kind, and few for options", "\x50" + packet(0, "\x11")[1:], api.ErrKind},
		{"a kind, and options", "\x70" + optioned(wrongLength, "")[1:], api.ErrKind},
		{"a kind, and no next", "\xe0" + noNext(optioned("\x01\x04abcd", ""))[1:], api.ErrKind},
		{"a kind, and a long body", "\x00" + packet(17, long)[1:], api.ErrKind},
		{"more announced, and few for options", announcing(packet(0, "\x11\x00"), 3), api.ErrEnd},
		{"more announced, and fewer than the options ask", announcing(packet(0, "\x11\xff"+alertOption+"\x01\x00"), 9), api.ErrEnd},
		{"more announced, and options", announcing(optioned(wrongKind, ""), 9), api.ErrEnd},
		{"more announced, and no next", announcing(noNext(optioned("\x01\x04abcd", "")), 9), api.ErrEnd},
		{"more announced, and a long body", announcing(packet(17, long), 1402), api.ErrEnd},
		{"few for options, and no next", packet(0, "\x00\x00\x00\x00\x00\x00\x00"), api.ErrForm},
		{"fewer than the options ask, and a kind of them", packet(0, "\x11\x01"+wrongKind), api.ErrForm},
		{"fewer than the options ask, and no next", packet(0, "\x00\x01\x01\x04abcd"), api.ErrForm},
		{"fewer than the options ask, and a long body behind", packet(0, "\x11\xff"+long), api.ErrForm},
		{"a kind of the options, and no next", noNext(optioned(wrongKind, "")), api.ErrKind},
		{"a kind of the options, no next, and a long body", noNext(optioned(wrongKind, long)), api.ErrKind},
		{"a length of the options, and no next", noNext(optioned(wrongLength, "")), api.ErrForm},
		{"a length of the options, and a long body", optioned(wrongLength, long), api.ErrForm},
		{"a kind of the options, and a long body", optioned(wrongKind, long), api.ErrKind},
		{"no next, and a long body", noNext(optioned("\x01\x04abcd", long)), api.ErrForm},
		{"no next behind an alert, and a long body", noNext(optioned(alertOption+"\x01\x00", long)), api.ErrForm},
	} {
		badly(t, x.name, x.s, x.code)
	}
}

// model is what Read should tell: the list of the chapter, word for word.
func model(s string) (api.Ip6, api.Errno) {
	if len(s) < 40 {
		return api.Ip6{}, api.ErrEnd
	}
	if s[0]/16 != 6 {
		return api.Ip6{}, api.ErrKind
	}
	size := int(s[4])*256 + int(s[5])
	if len(s) < 40+size {
		return api.Ip6{}, api.ErrEnd
	}
	p := api.Ip6{Class: int(s[0])%16*16 + int(s[1])/16, Flow: int(s[1])%16*65536 + int(s[2])*256 + int(s[3]), Next: int(s[6]), Hop: int(s[7]),
		From: api.Addr{V6: true, B: [16]byte([]byte(s[8:24]))}, To: api.Addr{V6: true, B: [16]byte([]byte(s[24:40]))}, Body: s[40 : 40+size]}
	if s[6] == 0 {
		if size < 8 {
			return api.Ip6{}, api.ErrForm
		}
		taken := 8 * (int(s[41]) + 1)
		if size < taken {
			return api.Ip6{}, api.ErrForm
		}
		alert, code := modelOptions(s[42 : 40+taken])
		if code != api.OK {
			return api.Ip6{}, code
		}
		if s[40] == 0 {
			return api.Ip6{}, api.ErrForm
		}
		p.Next, p.Alert, p.Body = int(s[40]), alert, s[40+taken:40+size]
	}
	if len(p.Body) > 1400 {
		return api.Ip6{}, api.ErrLong
	}
	return p, api.OK
}

// asModel checks Read of s against the model.
func asModel(t *testing.T, s string) api.Errno {
	t.Helper()
	want, code := model(s)
	if code != api.OK {
		badly(t, "model", s, code)
	} else {
		well(t, "model", s, want)
	}
	return code
}

// TestReadAsModel is for P6.3: packets in which one byte or two are others, cut at all places.
func TestReadAsModel(t *testing.T) {
	seen := map[api.Errno]int{}
	for _, s := range []string{packet(17, ""), packet(17, "body!"), optioned(alertOption+"\x01\x00", ""), optioned(alertOption+"\x01\x00", "body!"),
		optioned("\x00\x07\x03abc\x00"+alertOption+"\x01\x01x", "0123456789"), packet(17, body(1401)), optioned("\x01\x04abcd", body(1401))} {
		// Of a long packet a few values do, from one end to the other.
		step := 1
		if len(s) > 1400 {
			step = 51
		}
		for i := range min(len(s), 60) {
			for b := 0; b < 256; b += step {
				x := patched(s, i, bytesFrom(b))
				seen[asModel(t, x)]++
				seen[asModel(t, x+"behind")]++
				for _, at := range []int{4, 5, 6, 40, 41, 42, 43, 47} {
					if at < len(x) {
						seen[asModel(t, patched(x, at, bytesFrom(b*3+i*5)))]++
						seen[asModel(t, patched(x, at, "\x00"))]++
					}
				}
			}
		}
		for size := range len(s) {
			seen[asModel(t, s[:size])]++
		}
	}
	for _, code := range []api.Errno{api.OK, api.ErrForm, api.ErrEnd, api.ErrKind, api.ErrLong} {
		if seen[code] == 0 {
			t.Errorf("%v was never told", code)
		}
	}
}

// TestReadManyOptions is for P6.3: all lists of one unit of the bytes that matter, with a body and without.
func TestReadManyOptions(t *testing.T) {
	few := "\x00\x01\x02\x05\x07\xc2"
	for n := range 6 * 6 * 6 * 6 * 6 * 6 {
		list := ""
		for k := n; len(list) < 6; k /= 6 {
			list += few[k%6 : k%6+1]
		}
		asModel(t, optioned(list, ""))
		asModel(t, optioned(list, "body!"))
	}
}

// FuzzRead is for P6.3 and P6.5: whatever s is, Read tells what the model tells, and what is read is good and can be written.
func FuzzRead(f *testing.F) {
	for _, x := range samples() {
		f.Add(bytesOf(x.p))
	}
	f.Add(optioned("\x07\x05abcd", body(1401)))
	f.Fuzz(func(t *testing.T, s string) {
		asModel(t, s)
		if len(s) >= 40 && len(s) < 40+65536 {
			asModel(t, announcing(s, len(s)-40))
		}
		if p, err := Read(s); err == api.OK {
			out, code := Write(p)
			if back, err := Read(out); !Good(p) || code != api.OK || back != p || err != api.OK {
				t.Errorf("%x: %+v, %v", start(s), brief(back), err)
			}
		}
	})
}
