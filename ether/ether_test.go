package ether

import (
	"math"
	"strings"
	"testing"

	"acequia/api"
)

const (
	bytesTo   = "\x01\x00\x5e\x01\x02\x03"
	bytesFrom = "\x02\xfe\x07\x80\x00\xff"
	head      = bytesTo + bytesFrom
)

var (
	macTo   = api.Mac{1, 0, 0x5e, 1, 2, 3}
	macFrom = api.Mac{2, 0xfe, 7, 0x80, 0, 0xff}
)

// plain is a good frame without a tag.
func plain() api.Ether {
	return api.Ether{To: macTo, From: macFrom, Type: api.TypeIp4, Body: "body"}
}

// tagged is a good frame with a tag.
func tagged() api.Ether {
	e := plain()
	e.Tagged, e.Vlan, e.Prio = true, 10, 5
	return e
}

// body is a body of that many bytes, no two neighbours of which are the same.
func body(size int) string {
	out := make([]byte, size)
	for i := range out {
		out[i] = byte(i*7 + i/256)
	}
	return string(out)
}

// word is the two bytes of n.
func word(n int) string {
	return string([]byte{byte(n >> 8), byte(n)})
}

// typed is e with that type.
func typed(e api.Ether, n int) api.Ether {
	e.Type = n
	return e
}

// bodied is e with a body of that many bytes.
func bodied(e api.Ether, size int) api.Ether {
	e.Body = body(size)
	return e
}

// numbered is e with that Vlan and that Prio, whether it has a tag or not.
func numbered(e api.Ether, vlan, prio int) api.Ether {
	e.Vlan, e.Prio = vlan, prio
	return e
}

// sample is a frame, whether it is good, how many bytes it has, and, if it is good, which.
type sample struct {
	name  string
	e     api.Ether
	good  bool
	size  int
	bytes string
}

// typeSamples are frames of all types at the borders that the chapter names, with and without a tag.
func typeSamples() []sample {
	var out []sample
	for _, x := range []struct {
		n    int
		good bool
	}{
		{math.MinInt, false},
		{-65536 + api.TypeIp4, false},
		{-65536, false},
		{-1536, false},
		{-1, false},
		{0, false},
		{1, false},
		{1500, false},
		{1534, false},
		{1535, false},
		{1536, true},
		{1537, true},
		{api.TypeIp4 - 1, true},
		{api.TypeIp4, true},
		{0x7fff, true},
		{0x8000, true},
		{0x80ff, true},
		{0x8100, false},
		{0x8101, true},
		{0x88a8, true},
		{api.TypeIp6, true},
		{65534, true},
		{65535, true},
		{65536, false},
		{65536 + api.TypeIp4, false},
		{65536 + 0x8100, false},
		{1<<32 + api.TypeIp4, false},
		{math.MaxInt, false},
	} {
		out = append(out,
			sample{"type, plain", typed(plain(), x.n), x.good, 18, head + word(x.n) + "body"},
			sample{"type, tagged", typed(tagged(), x.n), x.good, 22, head + "\x81\x00\xa0\x0a" + word(x.n) + "body"})
	}
	return out
}

// tagSamples are frames with all tags at the borders that the chapter names, and such without a tag that tell a part of one.
func tagSamples() []sample {
	var out []sample
	for _, vlan := range []int{math.MinInt, -4096, -1, 0, 1, 10, 255, 256, 2047, 2048, 4093, 4094, 4095, 4096, 4106, 65536, math.MaxInt} {
		for _, prio := range []int{math.MinInt, -8, -1, 0, 1, 3, 4, 5, 6, 7, 8, 9, 13, 65536, math.MaxInt} {
			good := vlan >= 0 && vlan <= 4094 && prio >= 0 && prio <= 7
			out = append(out,
				sample{"tag", numbered(tagged(), vlan, prio), good, 22, head + "\x81\x00" + word(prio*8192+vlan) + "\x08\x00body"},
				sample{"no tag", numbered(plain(), vlan, prio), vlan == 0 && prio == 0, 18, head + "\x08\x00body"})
		}
	}
	return out
}

// bodySamples are frames of all sizes at the borders that the chapter names, with and without a tag.
func bodySamples() []sample {
	var out []sample
	for _, size := range []int{0, 1, 2, 4, 45, 46, 1400, 1495, 1496, 1499, 1500, 1501, 1502, 1504, 3000, 65536} {
		out = append(out,
			sample{"body, plain", bodied(plain(), size), size <= 1500, 14 + size, head + "\x08\x00" + body(size)},
			sample{"body, tagged", bodied(tagged(), size), size <= 1500, 18 + size, head + "\x81\x00\xa0\x0a\x08\x00" + body(size)})
	}
	return out
}

// samples are frames of all kinds, good ones and others.
func samples() []sample {
	zeros := strings.Repeat("\x00", 12)
	out := []sample{
		{"zero", api.Ether{}, false, 14, ""},
		{"zero with a tag", api.Ether{Tagged: true}, false, 18, ""},
		{"smallest", api.Ether{Type: 1536}, true, 14, zeros + "\x06\x00"},
		{"smallest with a tag", api.Ether{Tagged: true, Type: 1536}, true, 18, zeros + "\x81\x00\x00\x00\x06\x00"},
		{"to one", api.Ether{To: macFrom, From: macTo, Type: 1536}, true, 14, bytesFrom + bytesTo + "\x06\x00"},
		{"tag in the body", api.Ether{To: macTo, From: macFrom, Type: 0x86dd, Body: "\x81\x00\xa0\x0a\x08\x00"}, true, 20, head + "\x86\xdd\x81\x00\xa0\x0a\x08\x00"},
		{"tag with a tag in the body", api.Ether{To: macTo, From: macFrom, Tagged: true, Vlan: 4094, Prio: 7, Type: 0x86dd, Body: "\x81\x00"}, true, 20, head + "\x81\x00\xef\xfe\x86\xdd\x81\x00"},
		{"all wrong", api.Ether{Vlan: -1, Prio: 8, Type: 7, Body: body(1501)}, false, 1515, ""},
		{"all wrong with a tag", api.Ether{Tagged: true, Vlan: 4095, Prio: -1, Type: 0x8100, Body: body(1501)}, false, 1519, ""},
	}
	out = append(out, typeSamples()...)
	out = append(out, tagSamples()...)
	return append(out, bodySamples()...)
}

// brief is e without its body, for what a test tells.
func brief(e api.Ether) api.Ether {
	e.Body = e.Body[:min(len(e.Body), 8)]
	return e
}

// TestGood is for P4.1.
func TestGood(t *testing.T) {
	for _, x := range samples() {
		if got := Good(x.e); got != x.good {
			t.Errorf("%s: Good(%+v) = %v", x.name, brief(x.e), got)
		}
	}
}

// TestGoodOfAllNumbers is for P4.1: each number by itself, far over both borders.
func TestGoodOfAllNumbers(t *testing.T) {
	for n := -70000; n <= 140000; n++ {
		good := n >= 1536 && n <= 65535 && n != 33024
		if Good(typed(plain(), n)) != good || Good(typed(tagged(), n)) != good {
			t.Fatalf("type %d", n)
		}
		if Good(numbered(tagged(), n, 0)) != (n >= 0 && n <= 4094) || Good(numbered(plain(), n, 0)) != (n == 0) {
			t.Fatalf("vlan %d", n)
		}
		if Good(numbered(tagged(), 0, n)) != (n >= 0 && n <= 7) || Good(numbered(plain(), 0, n)) != (n == 0) {
			t.Fatalf("prio %d", n)
		}
	}
}

// TestSize is for P4.1; of a frame that is not good the size is told as well.
func TestSize(t *testing.T) {
	for _, x := range samples() {
		if got := Size(x.e); got != x.size {
			t.Errorf("%s: Size(%+v) = %d, not %d", x.name, brief(x.e), got, x.size)
		}
		if s, err := Write(x.e); err == api.OK && len(s) != Size(x.e) {
			t.Errorf("%s: %d bytes, Size %d", x.name, len(s), Size(x.e))
		}
	}
}

// TestWrite is for P4.2.
func TestWrite(t *testing.T) {
	for _, x := range samples() {
		want, code := x.bytes, api.OK
		if !x.good {
			want, code = "", api.ErrForm
		}
		if got, err := Write(x.e); got != want || err != code {
			t.Errorf("%s: Write(%+v) = %x, %v, not %x, %v", x.name, brief(x.e), got, err, want, code)
		}
	}
}

// TestExample is for P4.2: the tag that the chapter tells.
func TestExample(t *testing.T) {
	e := api.Ether{Tagged: true, Prio: 5, Vlan: 10, Type: api.TypeIp4}
	if s, err := Write(e); err != api.OK || s[12:16] != "\x81\x00\xa0\x0a" {
		t.Errorf("%x, %v", s, err)
	}
}

// TestWriteOfAllTags is for P4.2 and P4.4: each good tag by itself, and no two of the same bytes.
func TestWriteOfAllTags(t *testing.T) {
	seen := map[string]bool{}
	for prio := range 8 {
		for vlan := range 4095 {
			e := numbered(tagged(), vlan, prio)
			s, err := Write(e)
			if err != api.OK || s != head+"\x81\x00"+word(8192*prio+vlan)+"\x08\x00body" || seen[s] {
				t.Fatalf("%d, %d: %x, %v", vlan, prio, s, err)
			}
			seen[s] = true
			if back, err := Read(s); back != e || err != api.OK {
				t.Fatalf("%d, %d: back %+v, %v", vlan, prio, back, err)
			}
		}
	}
}

// TestRead is for P4.3: what is good, and each fault by itself.
func TestRead(t *testing.T) {
	for _, x := range []struct {
		name string
		s    string
		want api.Ether
	}{
		{"14 bytes", head + "\x08\x00", api.Ether{To: macTo, From: macFrom, Type: 0x800}},
		{"17 bytes without a tag", head + "\x08\x00abc", api.Ether{To: macTo, From: macFrom, Type: 0x800, Body: "abc"}},
		{"18 bytes without a tag", head + "\x08\x00abcd", api.Ether{To: macTo, From: macFrom, Type: 0x800, Body: "abcd"}},
		{"18 bytes with a tag", head + "\x81\x00\xa0\x0a\x08\x00", api.Ether{To: macTo, From: macFrom, Tagged: true, Vlan: 10, Prio: 5, Type: 0x800}},
		{"19 bytes with a tag", head + "\x81\x00\xa0\x0a\x08\x00!", api.Ether{To: macTo, From: macFrom, Tagged: true, Vlan: 10, Prio: 5, Type: 0x800, Body: "!"}},
		{"tag 0", head + "\x81\x00\x00\x00\x08\x00", api.Ether{To: macTo, From: macFrom, Tagged: true, Type: 0x800}},
		{"vlan 4094", head + "\x81\x00\x0f\xfe\x08\x00", api.Ether{To: macTo, From: macFrom, Tagged: true, Vlan: 4094, Type: 0x800}},
		{"vlan 4094 and prio 7", head + "\x81\x00\xef\xfe\x08\x00", api.Ether{To: macTo, From: macFrom, Tagged: true, Vlan: 4094, Prio: 7, Type: 0x800}},
		{"prio 7 alone", head + "\x81\x00\xe0\x00\x08\x00", api.Ether{To: macTo, From: macFrom, Tagged: true, Prio: 7, Type: 0x800}},
		{"type 1536", head + "\x06\x00", api.Ether{To: macTo, From: macFrom, Type: 1536}},
		{"type 1536 after a tag", head + "\x81\x00\x00\x01\x06\x00", api.Ether{To: macTo, From: macFrom, Tagged: true, Vlan: 1, Type: 1536}},
		{"type 0x80ff", head + "\x80\xff\x00", api.Ether{To: macTo, From: macFrom, Type: 0x80ff, Body: "\x00"}},
		{"type 0x8101", head + "\x81\x01", api.Ether{To: macTo, From: macFrom, Type: 0x8101}},
		{"type 0x80ff after a tag", head + "\x81\x00\x00\x01\x80\xff", api.Ether{To: macTo, From: macFrom, Tagged: true, Vlan: 1, Type: 0x80ff}},
		{"type 0x8101 after a tag", head + "\x81\x00\x00\x01\x81\x01", api.Ether{To: macTo, From: macFrom, Tagged: true, Vlan: 1, Type: 0x8101}},
		{"type 65535", head + "\xff\xff", api.Ether{To: macTo, From: macFrom, Type: 65535}},
		{"type 65535 after a tag", head + "\x81\x00\x00\x01\xff\xff", api.Ether{To: macTo, From: macFrom, Tagged: true, Vlan: 1, Type: 65535}},
		{"a tag in the body", head + "\x08\x00\x81\x00\xff\xff\x00\x00", api.Ether{To: macTo, From: macFrom, Type: 0x800, Body: "\x81\x00\xff\xff\x00\x00"}},
		{"1500 bytes", head + "\x08\x00" + body(1500), api.Ether{To: macTo, From: macFrom, Type: 0x800, Body: body(1500)}},
		{"1500 bytes with a tag", head + "\x81\x00\xa0\x0a\x08\x00" + body(1500), api.Ether{To: macTo, From: macFrom, Tagged: true, Vlan: 10, Prio: 5, Type: 0x800, Body: body(1500)}},
		{"other addresses", "\xff\xff\xff\xff\xff\xff\x00\x00\x00\x00\x00\x00\x08\x00", api.Ether{To: api.Mac{255, 255, 255, 255, 255, 255}, Type: 0x800}},
		{"addresses that look like tags", strings.Repeat("\x81\x00", 6) + "\x08\x00", api.Ether{To: api.Mac{0x81, 0, 0x81, 0, 0x81, 0}, From: api.Mac{0x81, 0, 0x81, 0, 0x81, 0}, Type: 0x800}},
	} {
		if got, err := Read(x.s); got != x.want || err != api.OK {
			t.Errorf("%s: %+v, %v", x.name, brief(got), err)
		}
	}
}

// badly checks that s is no frame, for that reason, and that nothing else is told.
func badly(t *testing.T, name, s string, code api.Errno) {
	t.Helper()
	if got, err := Read(s); got != (api.Ether{}) || err != code {
		t.Errorf("%s: %+v, %v, not %v", name, brief(got), err, code)
	}
}

// TestReadTooShort is for P4.3: each size below the smallest ones, whatever the bytes are.
func TestReadTooShort(t *testing.T) {
	for _, fill := range []string{"\x00", "\x08", "\x81\x00", "\xff", head + "\x08\x00", head + "\x05\xff", head + "\x81\x00\xa0\x0a\x08\x00", head + "\x81\x00\xff\xff\x81\x00"} {
		all := strings.Repeat(fill, 14)
		for size := range 14 {
			badly(t, "too short", all[:size], api.ErrEnd)
		}
	}
	for _, tag := range []string{"\xa0\x0a\x08\x00", "\x00\x00\x00\x00", "\x10\x00\x08\x00", "\x0f\xff\x08\x00", "\xff\xff\x81\x00", "\x81\x00\x81\x00"} {
		for size := range 4 {
			badly(t, "too short with a tag", head+"\x81\x00"+tag[:size], api.ErrEnd)
		}
	}
}

// TestReadOfWrongTags is for P4.3.
func TestReadOfWrongTags(t *testing.T) {
	for name, tag := range map[string]string{
		"bit 4096":               "\x10\x00",
		"bit 4096, vlan and all": "\xb0\x0a",
		"bit 4096, vlan 4094":    "\x1f\xfe",
		"vlan 4095":              "\x0f\xff",
		"vlan 4095, prio 7":      "\xef\xff",
		"both":                   "\x1f\xff",
		"both, prio 7":           "\xff\xff",
	} {
		badly(t, name, head+"\x81\x00"+tag+"\x08\x00", api.ErrKind)
		badly(t, name, head+"\x81\x00"+tag+"\x08\x00"+body(1500), api.ErrKind)
	}
}

// TestReadOfWrongTypes is for P4.3.
func TestReadOfWrongTypes(t *testing.T) {
	for _, tag := range []string{"", "\x81\x00\x00\x00", "\x81\x00\xa0\x0a", "\x81\x00\xef\xfe"} {
		for _, n := range []int{0, 1, 46, 1500, 1501, 1534, 1535} {
			badly(t, "type", head+tag+word(n), api.ErrKind)
			badly(t, "type and body", head+tag+word(n)+body(1500), api.ErrKind)
		}
	}
	for _, tag := range []string{"\x00\x00", "\xa0\x0a", "\xef\xfe"} {
		badly(t, "a tag after a tag", head+"\x81\x00"+tag+"\x81\x00", api.ErrKind)
		badly(t, "two whole tags", head+"\x81\x00"+tag+"\x81\x00"+tag+"\x08\x00", api.ErrKind)
	}
}

// TestReadTooLong is for P4.3.
func TestReadTooLong(t *testing.T) {
	for _, size := range []int{1501, 1502, 1504, 1505, 4000, 65536} {
		badly(t, "too long", head+"\x08\x00"+body(size), api.ErrLong)
		badly(t, "too long with a tag", head+"\x81\x00\xa0\x0a\x08\x00"+body(size), api.ErrLong)
	}
}

// TestReadFirstError is for P4.3: of several errors the first one of the chapter's list counts.
func TestReadFirstError(t *testing.T) {
	long := body(1501)
	for _, x := range []struct {
		name string
		s    string
		code api.Errno
	}{
		{"too short and a wrong tag", head + "\x81\x00\xff\xff\x08", api.ErrEnd},
		{"too short, bit 4096 and a type", head + "\x81\x00\x10\x00\x05", api.ErrEnd},
		{"too short and nothing of a tag", head + "\x81\x00", api.ErrEnd},
		{"too short and half a small type", head + "\x05", api.ErrEnd},
		{"a wrong tag and a wrong type", head + "\x81\x00\x1f\xff\x05\xff", api.ErrKind},
		{"a wrong tag and a tag", head + "\x81\x00\x0f\xff\x81\x00", api.ErrKind},
		{"bit 4096 and too long", head + "\x81\x00\x10\x00\x08\x00" + long, api.ErrKind},
		{"vlan 4095 and too long", head + "\x81\x00\x0f\xff\x08\x00" + long, api.ErrKind},
		{"a wrong type and too long", head + "\x05\xff" + long, api.ErrKind},
		{"a wrong type after a tag and too long", head + "\x81\x00\xa0\x0a\x05\xff" + long, api.ErrKind},
		{"a tag after a tag and too long", head + "\x81\x00\xa0\x0a\x81\x00" + long, api.ErrKind},
		{"all of it", head + "\x81\x00\xff\xff\x81\x00" + long, api.ErrKind},
	} {
		badly(t, x.name, x.s, x.code)
	}
}

// TestReadOfAllWords is for P4.3 and P4.4: each type without a tag, and each tag and each type behind one.
func TestReadOfAllWords(t *testing.T) {
	for n := range 65536 {
		checkRead(t, head+word(n)+"\x00\x07\x09\x00", n != 0x8100 && n < 1536)
		checkRead(t, head+"\x81\x00\x00\x07"+word(n)+"body", n < 1536 || n == 0x8100)
		checkRead(t, head+"\x81\x00"+word(n)+"\x08\x00body", n/4096%2 == 1 || n%4096 == 4095)
	}
}

// checkRead checks that s, which is neither too short nor too long, is a frame unless its kind is wrong, and that a frame gives s again.
func checkRead(t *testing.T, s string, wrong bool) {
	t.Helper()
	if wrong {
		badly(t, "of a wrong kind", s, api.ErrKind)
		return
	}
	e, err := Read(s)
	back, code := Write(e)
	if err != api.OK || !Good(e) || Size(e) != len(s) || back != s || code != api.OK {
		t.Errorf("%x: %+v, %v; %x, %v", s, e, err, back, code)
	}
}

// TestReadOfWrite is for P4.4.
func TestReadOfWrite(t *testing.T) {
	for _, x := range samples() {
		if !x.good {
			continue
		}
		s, _ := Write(x.e)
		e, err := Read(s)
		if e != x.e || err != api.OK {
			t.Errorf("%s: %+v, %v", x.name, brief(e), err)
		}
		if back, err := Write(e); back != s || err != api.OK {
			t.Errorf("%s: %x, %v", x.name, back, err)
		}
	}
}

// FuzzRead is for P4.3 and P4.4: whatever s is, what Read tells is good and gives s again, or it is an error of the chapter, beside which nothing is told.
func FuzzRead(f *testing.F) {
	for _, x := range samples() {
		f.Add(x.bytes)
	}
	f.Fuzz(func(t *testing.T, s string) {
		e, err := Read(s)
		switch err {
		case api.OK:
			if back, code := Write(e); !Good(e) || back != s || code != api.OK {
				t.Errorf("%+v, %x, %v", e, back, code)
			}
		case api.ErrEnd, api.ErrKind, api.ErrLong:
			badly(t, "fuzz", s, err)
		default:
			t.Errorf("%x: %v", s, err)
		}
	})
}

// TestRetag is for P4.3.
func TestRetag(t *testing.T) {
	zeroTag := numbered(tagged(), 0, 0)
	full := numbered(tagged(), 4094, 7)
	for _, x := range []struct {
		name string
		e    api.Ether
		vlan int
		want api.Ether
		code api.Errno
	}{
		{"plain", plain(), math.MinInt, api.Ether{}, api.ErrArg},
		{"plain", plain(), -2, api.Ether{}, api.ErrArg},
		{"plain", plain(), -1, plain(), api.OK},
		{"plain", plain(), 0, zeroTag, api.OK},
		{"plain", plain(), 1, numbered(tagged(), 1, 0), api.OK},
		{"plain", plain(), 4094, numbered(tagged(), 4094, 0), api.OK},
		{"plain", plain(), 4095, api.Ether{}, api.ErrArg},
		{"plain", plain(), math.MaxInt, api.Ether{}, api.ErrArg},
		{"tagged", tagged(), math.MinInt, api.Ether{}, api.ErrArg},
		{"tagged", tagged(), -2, api.Ether{}, api.ErrArg},
		{"tagged", tagged(), -1, plain(), api.OK},
		{"tagged", tagged(), 0, numbered(tagged(), 0, 5), api.OK},
		{"tagged", tagged(), 10, tagged(), api.OK},
		{"tagged", tagged(), 4094, numbered(tagged(), 4094, 5), api.OK},
		{"tagged", tagged(), 4095, api.Ether{}, api.ErrArg},
		{"tagged", tagged(), 4096, api.Ether{}, api.ErrArg},
		{"tagged", tagged(), math.MaxInt, api.Ether{}, api.ErrArg},
		{"a tag of zeros", zeroTag, -1, plain(), api.OK},
		{"a tag of zeros", zeroTag, 0, zeroTag, api.OK},
		{"a tag of zeros", zeroTag, 4094, numbered(tagged(), 4094, 0), api.OK},
		{"the highest tag", full, -2, api.Ether{}, api.ErrArg},
		{"the highest tag", full, -1, plain(), api.OK},
		{"the highest tag", full, 0, numbered(tagged(), 0, 7), api.OK},
		{"the highest tag", full, 4094, full, api.OK},
		{"the highest tag", full, 4095, api.Ether{}, api.ErrArg},
		{"the longest body", bodied(plain(), 1500), 3, numbered(bodied(tagged(), 1500), 3, 0), api.OK},
		{"the longest body with a tag", bodied(tagged(), 1500), -1, bodied(plain(), 1500), api.OK},
		{"another type and no body", bodied(typed(tagged(), 65535), 0), -1, bodied(typed(plain(), 65535), 0), api.OK},
	} {
		if got, err := Retag(x.e, x.vlan); got != x.want || err != x.code {
			t.Errorf("%s, %d: %+v, %v", x.name, x.vlan, brief(got), err)
		}
	}
}

// TestRetagOfNotGood is for P4.3: that a frame is not good is told first, whatever the vlan is.
func TestRetagOfNotGood(t *testing.T) {
	for _, x := range samples() {
		for _, vlan := range []int{math.MinInt, -2, -1, 0, 10, 4094, 4095, math.MaxInt} {
			got, err := Retag(x.e, vlan)
			switch {
			case !x.good && (got != (api.Ether{}) || err != api.ErrForm):
				t.Errorf("%s, %d: %+v, %v", x.name, vlan, brief(got), err)
			case x.good && (err == api.OK) != (vlan >= -1 && vlan <= 4094), x.good && err == api.OK && !Good(got):
				t.Errorf("%s, %d: %+v, %v", x.name, vlan, brief(got), err)
			}
		}
	}
}

// TestRetagOfAllNumbers is for P4.3: each vlan by itself, and the way back.
func TestRetagOfAllNumbers(t *testing.T) {
	for vlan := -5000; vlan <= 10000; vlan++ {
		got, err := Retag(tagged(), vlan)
		switch {
		case vlan < -1 || vlan > 4094:
			if got != (api.Ether{}) || err != api.ErrArg {
				t.Fatalf("%d: %+v, %v", vlan, got, err)
			}
		case vlan == -1:
			if got != plain() || err != api.OK {
				t.Fatalf("%+v, %v", got, err)
			}
		default:
			back, code := Retag(got, 10)
			if got != numbered(tagged(), vlan, 5) || err != api.OK || back != tagged() || code != api.OK {
				t.Fatalf("%d: %+v, %v; %+v, %v", vlan, got, err, back, code)
			}
		}
	}
}

// TestSameAgain is for the general rules: what a call tells hangs on its arguments alone.
func TestSameAgain(t *testing.T) {
	for _, x := range samples() {
		first, code := Write(x.e)
		Read(x.bytes)
		Retag(x.e, 7)
		if again, err := Write(x.e); again != first || err != code {
			t.Errorf("%s: %x, %v", x.name, again, err)
		}
	}
}
