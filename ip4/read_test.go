package ip4

import (
	"strings"
	"testing"

	"acequia/addr"
	"acequia/api"
)

// badly checks that s is no packet, for that reason, and that nothing else is told, of Hop either.
func badly(t *testing.T, name, s string, code api.Errno) {
	t.Helper()
	if got, err := Read(s); got != (api.Ip4{}) || err != code {
		t.Errorf("%s, %x: %+v, %v, not %v", name, start(s), brief(got), err, code)
	}
	if got, err := Hop(s); got != "" || err != code {
		t.Errorf("%s, hop of %x: %x, %v, not %v", name, start(s), start(got), err, code)
	}
}

// well checks that s is the packet p.
func well(t *testing.T, name, s string, p api.Ip4) {
	t.Helper()
	if got, err := Read(s); got != p || err != api.OK {
		t.Errorf("%s, %x: %+v, %v", name, start(s), brief(got), err)
	}
}

// resized is s with that total size, and the checksum for it.
func resized(s string, total int) string {
	return sealed(patched(s, 2, number(total)))
}

// TestReadFields is for P5.3: each field from its own bytes.
func TestReadFields(t *testing.T) {
	s := sealed("\x45\x01\x00\x17\x02\x03\x00\x00\x04\x05\x00\x00\x06\x07\x08\x09\x0a\x0b\x0c\x0dabc")
	want := api.Ip4{Tos: 1, Id: 0x0203, Ttl: 4, Proto: 5, From: addr.Ip4(6, 7, 8, 9), To: addr.Ip4(10, 11, 12, 13), Body: "abc"}
	well(t, "rising", s, want)
	s = sealed("\x46\xff\x00\x1b\xfe\xfd\x00\x00\xfc\xfb\x00\x00\xfa\xf9\xf8\xf7\xf6\xf5\xf4\xf3\x94\x04\x00\x00abc")
	want = api.Ip4{Tos: 255, Id: 0xfefd, Ttl: 252, Proto: 251, From: addr.Ip4(250, 249, 248, 247), To: addr.Ip4(246, 245, 244, 243), Alert: true, Body: "abc"}
	well(t, "falling", s, want)
}

// TestReadTooShort is for P5.3: each size below that of a header, whatever the bytes are.
func TestReadTooShort(t *testing.T) {
	whole, _ := Write(alerted())
	for _, all := range []string{whole, strings.Repeat("\x00", 20), strings.Repeat("\xff", 20), strings.Repeat("\x65", 20), strings.Repeat("\x44", 20)} {
		for size := range 20 {
			badly(t, "too short", all[:size], api.ErrEnd)
		}
	}
	// An empty body and no options: 19 bytes are too few, and 20 are enough.
	s := packet("", "")
	badly(t, "19 bytes", s[:19], api.ErrEnd)
	p := plain()
	p.Body = ""
	well(t, "20 bytes", s, p)
}

// TestReadFirstByte is for P5.3: every first byte, with the sum that its header asks for.
func TestReadFirstByte(t *testing.T) {
	for first := range 256 {
		// No options but bytes 0, which end them at once.
		s := sealed(string([]byte{byte(first)}) + packet("", strings.Repeat("\x00", 40)+"tail")[1:])
		half := first % 16
		switch {
		case first/16 != 4:
			badly(t, "version", s, api.ErrKind)
		case half < 5:
			badly(t, "header", s, api.ErrForm)
		default:
			p := plain()
			p.Body = strings.Repeat("\x00", 60-4*half) + "tail"
			well(t, "header", s, p)
		}
	}
}

// TestReadOfPartOfHeader is for P5.3: fewer bytes than the header announces.
func TestReadOfPartOfHeader(t *testing.T) {
	for half := 6; half <= 15; half++ {
		options := strings.Repeat("\x01", 4*half-20)
		s := packet(options, "")
		for size := 20; size < len(s); size++ {
			badly(t, "part of a header", s[:size], api.ErrEnd)
		}
		p := plain()
		p.Body = ""
		well(t, "all of a header", s, p)
	}
}

// TestReadSum is for P5.3: each bit of a header by itself makes its sum bad; those of the body don't.
func TestReadSum(t *testing.T) {
	for _, p := range []api.Ip4{plain(), alerted()} {
		s, _ := Write(p)
		for i := 1; i < len(s)-len(p.Body); i++ {
			for bit := range 8 {
				badly(t, "a bit", patched(s, i, string([]byte{s[i] ^ 1<<bit})), api.ErrSum)
			}
		}
		q := p
		q.Body = "other"
		well(t, "another body", patched(s, len(s)-len(p.Body), "other"), q)
	}
	// A sum of the header with the checksum at 0 is not good by itself.
	s := packet("", "")
	badly(t, "no checksum", patched(s, 10, "\x00\x00"), api.ErrSum)
	badly(t, "the checksum turned", patched(s, 10, string([]byte{s[11], s[10]})), api.ErrSum)
}

// TestReadBothZeros is for P5.3: a sum has two forms of zero, and a header with either one is good.
func TestReadBothZeros(t *testing.T) {
	p := plain()
	for id := range 65536 {
		p.Id = id
		s, _ := Write(p)
		if s[10:12] == "\x00\x00" {
			well(t, "checksum 0", s, p)
			well(t, "checksum 65535", patched(s, 10, "\xff\xff"), p)
			return
		}
	}
	t.Error("no packet has the checksum 0")
}

// TestReadTotal is for P5.3: the total size, below that of the header, at it, up to what is there, and beyond.
func TestReadTotal(t *testing.T) {
	for _, options := range []string{"", "\x94\x04\x00\x00", strings.Repeat("\x01", 40)} {
		s := packet(options, "0123456789")
		head := len(s) - 10
		p := plain()
		p.Alert = len(options) == 4
		for total := range len(s) + 40 {
			x := resized(s, total)
			switch {
			case total < head:
				badly(t, "below the header", x, api.ErrForm)
			case total > len(s):
				badly(t, "beyond the end", x, api.ErrEnd)
			default:
				p.Body = "0123456789"[:total-head]
				well(t, "total", x, p)
			}
		}
		for _, total := range []int{256, 512, 32768, 65280, 65535} {
			badly(t, "far beyond the end", resized(s, total), api.ErrEnd)
		}
	}
}

// TestReadBehind is for P5.3: what follows the packet is ignored.
func TestReadBehind(t *testing.T) {
	for _, behind := range []string{"", "\x00", "\xff", "body", "\x94\x04\x00\x00", packet("", "more"), body(70000)} {
		well(t, "behind", packet("", "body!")+behind, plain())
	}
}

// TestReadFragment is for P5.3: each bit of the word at 6, and all of its values.
func TestReadFragment(t *testing.T) {
	s := packet("", "body!")
	for n := range 65536 {
		x := sealed(patched(s, 6, number(n)))
		if n%16384 == 0 {
			well(t, "no fragment", x, plain())
		} else {
			badly(t, "fragment", x, api.ErrKind)
		}
	}
}

// TestReadLong is for P5.3.
func TestReadLong(t *testing.T) {
	for _, options := range []string{"", "\x94\x04\x00\x00", strings.Repeat("\x01", 40)} {
		p := plain()
		p.Alert = len(options) == 4
		for _, size := range []int{1359, 1376, 1399, 1400} {
			p.Body = body(size)
			well(t, "long", packet(options, body(size)), p)
			well(t, "long, and more behind", packet(options, body(size))+body(1401), p)
		}
		for _, size := range []int{1401, 1402, 1420, 1440, 1441, 2048, 65535 - 60} {
			badly(t, "too long", packet(options, body(size)), api.ErrLong)
			badly(t, "too long, and more behind", packet(options, body(size))+"x", api.ErrLong)
		}
	}
}

// TestReadOptions is for P5.3: options of all forms that the chapter names.
func TestReadOptions(t *testing.T) {
	const alert = "\x94\x04\x00\x00"
	for _, x := range []struct {
		name, options string
		alert         bool
	}{
		{"an alert", alert, true},
		{"an alert first", alert + "\x00\x00\x00\x00", true},
		{"an alert first, and an option", alert + "\x07\x04ab", true},
		{"two alerts", alert + alert, true},
		{"an alert, and an other of its kind", alert + "\x94\x04\x00\x01", true},
		{"another of its kind, and an alert", "\x94\x04\x00\x01" + alert, true},
		{"an alert behind an option", "\x07\x04ab" + alert, true},
		{"an alert behind an empty option", "\x07\x02\x07\x02" + alert, true},
		{"an alert behind bytes 1", "\x01\x01\x01\x01" + alert, true},
		{"an alert behind one byte 1", "\x01" + alert + "\x00\x00\x00", true},
		{"an alert behind three bytes 1", "\x01\x01\x01" + alert + "\x01", true},
		{"an alert behind an option of three bytes", "\x07\x03a" + alert + "\x01", true},
		{"an alert at the end of the longest header", strings.Repeat("\x01", 36) + alert, true},
		{"an alert behind the longest option", "\x07\x24" + body(34) + alert, true},
		{"the end", "\x00\x00\x00\x00", false},
		{"the end ahead of an alert", "\x00\x00\x00\x00" + alert, false},
		{"the end just ahead of an alert", "\x01\x01\x01\x00" + alert, false},
		{"one end, and then an alert", "\x00" + alert + "\x01\x01\x01", false},
		{"the end ahead of what is not valid", "\x00\x07\x00\x00", false},
		{"the end ahead of a size too great", "\x01\x00\x07\xff", false},
		{"the end ahead of a size that is missing", "\x01\x01\x00\x07", false},
		{"the end behind an alert, ahead of what is not valid", alert + "\x00\x94\x01\x07", true},
		{"bytes 1", "\x01\x01\x01\x01", false},
		{"size 2", "\x94\x02\x94\x02", false},
		{"size 3", "\x94\x03\x00\x01", false},
		{"just what is left", "\x07\x04\xff\xff", false},
		{"just what is left, behind another", "\x01\x01\x07\x02", false},
		{"all of the longest header", "\x07\x28" + body(38), false},
		{"94 04 00 01", "\x94\x04\x00\x01", false},
		{"94 04 01 00", "\x94\x04\x01\x00", false},
		{"94 04 ff ff", "\x94\x04\xff\xff", false},
		{"94 05", "\x94\x05\x00\x00\x00\x00\x00\x00", false},
		{"94 05, and bytes 1", "\x94\x05\x00\x00\x00\x01\x01\x01", false},
		{"94 08", "\x94\x08\x00\x00\x00\x00\x00\x00", false},
		{"94 03", "\x94\x03\x00\x00", false},
		{"14 04", "\x14\x04\x00\x00", false},
		{"95 04", "\x95\x04\x00\x00", false},
		{"an alert inside an option", "\x07\x08ab" + alert, false},
		{"an alert inside an option, not in line", "\x07\x07a" + alert + "\x01", false},
	} {
		p := plain()
		p.Alert = x.alert
		well(t, x.name, packet(x.options, p.Body), p)
		// What stands behind the header is no option.
		p.Body = alert
		well(t, x.name, packet(x.options, p.Body), p)
	}
}

// TestReadWrongOptions is for P5.3.
func TestReadWrongOptions(t *testing.T) {
	for name, options := range map[string]string{
		"a size is missing":                           "\x01\x01\x01\x07",
		"a size is missing behind an option":          "\x07\x03a\x94",
		"a size is missing behind an alert":           "\x94\x04\x00\x00\x01\x01\x01\x94",
		"the kind 255 without a size":                 "\x01\x01\x01\xff",
		"the kind 2 without a size":                   "\x01\x01\x01\x02",
		"size 0":                                      "\x07\x00\x00\x00",
		"size 1":                                      "\x07\x01\x00\x00",
		"94 00":                                       "\x94\x00\x00\x00",
		"94 01":                                       "\x94\x01\x00\x00",
		"size 1 as the last":                          "\x01\x01\x07\x01",
		"size 0 behind an alert":                      "\x94\x04\x00\x00\x07\x00\x00\x00",
		"size 1 behind an alert":                      "\x94\x04\x00\x00\x01\x07\x01\x01",
		"one more than is left":                       "\x07\x05\x00\x00",
		"an alert's size, one more than is left":      "\x01\x94\x04\x00",
		"94 05, one more than is left":                "\x94\x05\x00\x00",
		"size 3 at the end":                           "\x01\x01\x07\x03",
		"size 128":                                    "\x07\x80\x00\x00",
		"size 255":                                    "\x07\xff\x00\x00",
		"one more than is left behind an alert":       "\x94\x04\x00\x00\x07\x05\x00\x00",
		"one more than is left of the longest header": "\x07\x29" + body(38),
	} {
		badly(t, name, packet(options, "body!"), api.ErrForm)
		badly(t, name, packet(options, body(1400)), api.ErrForm)
	}
}

// TestReadFirstError is for P5.3: of several errors the first one of the chapter's list counts.
func TestReadFirstError(t *testing.T) {
	bad := packet("\x07\x00\x00\x00", body(1401))
	wrong := func(s string) string { return patched(s, 10, string([]byte{s[10] ^ 1})) }
	fragment := patched(bad, 6, "\x20\x01")
	for _, x := range []struct {
		name string
		s    string
		code api.Errno
	}{
		{"too short, and all else", strings.Repeat("\x64", 19), api.ErrEnd},
		{"a kind, and a small header", "\x64" + bad[1:], api.ErrKind},
		{"a kind, and a part of a header", "\x6f" + bad[1:21], api.ErrKind},
		{"a kind, and a sum", "\x56" + bad[1:], api.ErrKind},
		{"a small header, and a sum", "\x44" + bad[1:], api.ErrForm},
		{"a small header, and no more", "\x40" + bad[1:20], api.ErrForm},
		{"a part of a header, and a sum", wrong(bad)[:23], api.ErrEnd},
		{"a part of a header, and a total", patched(bad, 2, "\x00\x00")[:23], api.ErrEnd},
		{"a sum, and a total below the header", wrong(resized(bad, 23)), api.ErrSum},
		{"a sum, and a total beyond the end", wrong(resized(bad, 60000)), api.ErrSum},
		{"a sum, and a fragment", wrong(sealed(fragment)), api.ErrSum},
		{"a sum, and options", wrong(bad), api.ErrSum},
		{"a sum, and a long body", wrong(packet("", body(1401))), api.ErrSum},
		{"a total below the header, and a fragment", resized(fragment, 23), api.ErrForm},
		{"a total below the header and 0, and a fragment", resized(fragment, 0), api.ErrForm},
		{"a total beyond the end, and a fragment", resized(fragment, len(bad)+1), api.ErrEnd},
		{"a total beyond the end, and options", resized(bad, len(bad)+1), api.ErrEnd},
		{"a total beyond the end, and a long body", resized(packet("", body(1401)), 1422), api.ErrEnd},
		{"a fragment, and options", sealed(fragment), api.ErrKind},
		{"a fragment, and a long body", sealed(patched(packet("", body(1401)), 6, "\x00\x01")), api.ErrKind},
		{"options, and a long body", bad, api.ErrForm},
		{"a long body, and a Ttl of 0", sealed(patched(packet("", body(1401)), 8, "\x00")), api.ErrLong},
	} {
		badly(t, x.name, x.s, x.code)
	}
}

// modelOptions is whether there is an alert among the options, and whether they are valid: the ways are followed from behind to the front.
func modelOptions(s string) (alert, valid bool) {
	alerts, valids := make([]bool, len(s)+1), make([]bool, len(s)+1)
	valids[len(s)] = true
	for i := len(s) - 1; i >= 0; i-- {
		next := i + 1
		if s[i] > 1 {
			if i+1 == len(s) || s[i+1] < 2 || i+int(s[i+1]) > len(s) {
				continue
			}
			next = i + int(s[i+1])
		}
		valids[i] = s[i] == 0 || valids[next]
		alerts[i] = s[i] != 0 && (alerts[next] || strings.HasPrefix(s[i:], "\x94\x04\x00\x00"))
	}
	return alerts[0] && valids[0], valids[0]
}

// TestReadManyOptions is for P5.3: all options of four bytes, and many of eight, of the bytes that matter.
func TestReadManyOptions(t *testing.T) {
	few := "\x00\x01\x02\x03\x04\x05\x94\xff"
	var all []string
	for n := range 1 << 12 {
		all = append(all, string([]byte{few[n%8], few[n/8%8], few[n/64%8], few[n/512]}))
	}
	seen := map[bool]int{}
	try := func(options string) {
		p := plain()
		var valid bool
		p.Alert, valid = modelOptions(options)
		if valid {
			well(t, "options", packet(options, p.Body), p)
			seen[p.Alert]++
		} else {
			badly(t, "options", packet(options, p.Body), api.ErrForm)
		}
	}
	for i, options := range all {
		try(options)
		try(options + "\x94\x04\x00\x00")
		try("\x94\x04\x00\x00" + options)
		for k := range 8 {
			try(options + all[(i*31+k*509)%len(all)])
		}
	}
	if seen[true] == 0 || seen[false] == 0 {
		t.Error("one sided")
	}
}

// model is what Read should tell: the list of the chapter, word for word.
func model(s string) (api.Ip4, api.Errno) {
	if len(s) < 20 {
		return api.Ip4{}, api.ErrEnd
	}
	if s[0]/16 != 4 {
		return api.Ip4{}, api.ErrKind
	}
	head := 4 * int(s[0]%16)
	if head < 20 {
		return api.Ip4{}, api.ErrForm
	}
	if len(s) < head {
		return api.Ip4{}, api.ErrEnd
	}
	if left := check(s[:head]); left != 0 && left != 65535 {
		return api.Ip4{}, api.ErrSum
	}
	total := int(s[2])*256 + int(s[3])
	if total < head {
		return api.Ip4{}, api.ErrForm
	}
	if len(s) < total {
		return api.Ip4{}, api.ErrEnd
	}
	if s[6]%64 != 0 || s[7] != 0 {
		return api.Ip4{}, api.ErrKind
	}
	alert, valid := modelOptions(s[20:head])
	if !valid {
		return api.Ip4{}, api.ErrForm
	}
	if total-head > 1400 {
		return api.Ip4{}, api.ErrLong
	}
	return api.Ip4{Tos: int(s[1]), Id: int(s[4])*256 + int(s[5]), Ttl: int(s[8]), Proto: int(s[9]),
		From: addr.Ip4(s[12], s[13], s[14], s[15]), To: addr.Ip4(s[16], s[17], s[18], s[19]), Alert: alert, Body: s[head:total]}, api.OK
}

// asModel checks Read and Hop of s against the model.
func asModel(t *testing.T, s string) api.Errno {
	t.Helper()
	want, code := model(s)
	if code != api.OK {
		badly(t, "model", s, code)
		return code
	}
	well(t, "model", s, want)
	checkHop(t, s, want)
	return code
}

// TestReadAsModel is for P5.3 and P5.4: packets in which one byte or two are others, cut at all places, with and without the right checksum.
func TestReadAsModel(t *testing.T) {
	seen := map[api.Errno]int{}
	for _, s := range []string{packet("", ""), packet("", "body!"), packet("\x94\x04\x00\x00", "body!"), packet("\x01\x07\x03a\x94\x04\x00\x00", "b"), packet("", body(1401))} {
		for i := range min(len(s), 32) {
			for b := range 256 {
				x := patched(s, i, string([]byte{byte(b)}))
				seen[asModel(t, x)]++
				if 4*int(x[0]%16) <= len(x) {
					seen[asModel(t, sealed(x))]++
					seen[asModel(t, sealed(x)+"behind")]++
					y := patched(x, (i*5+b)%20, string([]byte{byte(b * 3)}))
					if 4*int(y[0]%16) <= len(y) {
						seen[asModel(t, sealed(y))]++
					}
				}
			}
		}
		for size := range min(len(s), 64) {
			seen[asModel(t, s[:size])]++
		}
	}
	for _, code := range []api.Errno{api.OK, api.ErrForm, api.ErrEnd, api.ErrSum, api.ErrKind, api.ErrLong} {
		if seen[code] == 0 {
			t.Errorf("%v was never told", code)
		}
	}
}

// FuzzRead is for P5.3 to P5.5: whatever s is, Read and Hop tell what the model tells, and what is read is good and can be written.
func FuzzRead(f *testing.F) {
	for _, x := range samples() {
		f.Add(bytesOf(x.p))
	}
	f.Add(packet("\x07\x00\x00\x00", body(1401)))
	f.Fuzz(func(t *testing.T, s string) {
		asModel(t, s)
		if len(s) >= 60 {
			asModel(t, sealed(s))
		}
		if p, err := Read(s); err == api.OK {
			out, code := Write(p)
			if back, err := Read(out); !Good(p) || code != api.OK || back != p || err != api.OK {
				t.Errorf("%x: %+v, %v", start(s), brief(back), err)
			}
		}
	})
}
