package ip6

import (
	"strings"
	"testing"

	"acequia/api"
)

// alertOption is the option that is a router alert.
const alertOption = "\x05\x02\x00\x00"

// modelOptions is what Options should tell of s: the ways are followed from behind to the front.
func modelOptions(s string) (bool, api.Errno) {
	alerts, codes := make([]bool, len(s)+1), make([]api.Errno, len(s)+1)
	for i := len(s) - 1; i >= 0; i-- {
		next := i + 1
		switch {
		case s[i] == 0:
		case i+1 == len(s) || int(s[i+1]) > len(s)-i-2:
			codes[i] = api.ErrForm
			continue
		case s[i] >= 64:
			codes[i] = api.ErrKind
			continue
		default:
			next = i + 2 + int(s[i+1])
		}
		codes[i] = codes[next]
		alerts[i] = codes[i] == api.OK && (alerts[next] || s[i] != 0 && strings.HasPrefix(s[i:], alertOption))
	}
	return alerts[0], codes[0]
}

// checkOptions checks what Options tells of s.
func checkOptions(t *testing.T, name, s string, alert bool, code api.Errno) {
	t.Helper()
	if got, err := Options(s); got != alert || err != code {
		t.Errorf("%s, %x: %v, %v, not %v, %v", name, start(s), got, err, alert, code)
	}
}

// TestOptions is for P6.4: options that are as they should be.
func TestOptions(t *testing.T) {
	for _, x := range []struct {
		name, s string
		alert   bool
	}{
		{"none", "", false},
		{"the example", "\x05\x02\x00\x00\x01\x00", true},
		{"an alert alone", alertOption, true},
		{"an alert first", alertOption + "\x00\x00", true},
		{"an alert first, and an option", alertOption + "\x07\x02ab", true},
		{"two alerts", alertOption + alertOption, true},
		{"an alert behind a byte 0", "\x00" + alertOption, true},
		{"an alert behind bytes 0", "\x00\x00\x00" + alertOption + "\x00", true},
		{"an alert behind an empty option", "\x07\x00" + alertOption, true},
		{"an alert behind an option", "\x07\x02ab" + alertOption, true},
		{"an alert behind the longest option", "\x3f\xff" + body(255) + alertOption, true},
		{"an alert behind a pad of some length", "\x01\x04\x00\x00\x00\x00" + alertOption, true},
		{"an alert behind an empty pad", "\x01\x00" + alertOption, true},
		{"an alert behind another of its kind", "\x05\x02\x00\x01" + alertOption, true},
		{"an alert ahead of another of its kind", alertOption + "\x05\x02\x00\x01", true},
		{"an alert behind one without contents", "\x05\x00" + alertOption, true},
		{"an alert between options", "\x07\x01a\x00" + alertOption + "\x00\x09\x01b", true},
		{"one byte 0", "\x00", false},
		{"bytes 0", "\x00\x00\x00\x00\x00\x00", false},
		{"bytes 0 between others", "\x00\x07\x02ab\x00\x00\x09\x00\x00\x07\x01a\x00", false},
		{"an empty pad", "\x01\x00", false},
		{"a pad of some length", "\x01\x04\xff\xff\xff\xff", false},
		{"a pad of an alert's contents", "\x01\x02\x00\x00", false},
		{"an option of an alert's contents", "\x07\x02\x00\x00", false},
		{"the kind 4", "\x04\x02\x00\x00", false},
		{"the kind 6", "\x06\x02\x00\x00", false},
		{"the kind 37", "\x25\x02\x00\x00", false},
		{"an empty option", "\x07\x00", false},
		{"just what is left", "\x07\x03abc", false},
		{"just what is left, of the greatest length", "\x07\xff" + body(255), false},
		{"an alert without contents", "\x05\x00", false},
		{"05 01", "\x05\x01\x00", false},
		{"05 03", "\x05\x03\x00\x00\x00", false},
		{"05 04", "\x05\x04\x00\x00\x00\x00", false},
		{"05 02 00 01", "\x05\x02\x00\x01", false},
		{"05 02 01 00", "\x05\x02\x01\x00", false},
		{"05 02 00 80", "\x05\x02\x00\x80", false},
		{"05 02 ff ff", "\x05\x02\xff\xff", false},
		{"an alert inside an option", "\x07\x04" + alertOption, false},
		{"an alert inside a pad", "\x01\x06" + alertOption + "\x01\x00", false},
		{"an alert inside an option, not in line", "\x07\x07a" + alertOption + "bc", false},
		{"a kind of another act inside an option", "\x07\x04\xc2\xff\x80\x40", false},
		{"a missing length inside an option", "\x07\x01\x07", false},
	} {
		checkOptions(t, x.name, x.s, x.alert, api.OK)
		checkOptions(t, x.name+", and bytes 0", "\x00"+x.s+"\x00\x00", x.alert, api.OK)
		checkOptions(t, x.name+", and an alert", x.s+alertOption, true, api.OK)
	}
}

// TestWrongOptions is for P6.4: one option that is wrong, with and without an alert beside it; the result beside the error is false.
func TestWrongOptions(t *testing.T) {
	for _, x := range []struct {
		name, s string
		code    api.Errno
	}{
		{"the example", "\xc2", api.ErrForm},
		{"a length is missing", "\x07", api.ErrForm},
		{"a pad's length is missing", "\x01", api.ErrForm},
		{"an alert's length is missing", "\x05", api.ErrForm},
		{"a length is missing behind an option", "\x07\x01a\x07", api.ErrForm},
		{"a length is missing behind a byte 0", "\x00\x07", api.ErrForm},
		{"one more than is left, which is nothing", "\x07\x01", api.ErrForm},
		{"one more than is left", "\x07\x03ab", api.ErrForm},
		{"one more than is left of a pad", "\x01\x05\x00\x00\x00\x00", api.ErrForm},
		{"one more than is left of an alert", "\x05\x02\x00", api.ErrForm},
		{"no contents of an alert", "\x05\x02", api.ErrForm},
		{"one more than is left, of the greatest length", "\x07\xff" + body(254), api.ErrForm},
		{"far more than is left", "\x07\xffab", api.ErrForm},
		{"act 1", "\x40\x00", api.ErrKind},
		{"act 1, the highest", "\x7f\x02ab", api.ErrKind},
		{"act 1, an alert otherwise", "\x45\x02\x00\x00", api.ErrKind},
		{"act 2", "\x80\x00", api.ErrKind},
		{"act 2, the highest", "\xbf\x02ab", api.ErrKind},
		{"act 2, an alert otherwise", "\x85\x02\x00\x00", api.ErrKind},
		{"act 3", "\xc0\x00", api.ErrKind},
		{"act 3, the highest", "\xff\x02ab", api.ErrKind},
		{"act 3, an alert otherwise", "\xc5\x02\x00\x00", api.ErrKind},
		{"act 3, a jumbo's option", "\xc2\x04\x00\x01\x00\x00", api.ErrKind},
		{"act 1, and no length", "\x40", api.ErrForm},
		{"act 2, and no length", "\x80", api.ErrForm},
		{"act 3, and no length", "\xff", api.ErrForm},
		{"act 1, and one more than is left", "\x40\x01", api.ErrForm},
		{"act 2, and one more than is left", "\x80\x03ab", api.ErrForm},
		{"act 3, and far more than is left", "\xc2\xff\x00\x00", api.ErrForm},
	} {
		checkOptions(t, x.name, x.s, false, x.code)
		checkOptions(t, x.name+", behind a byte 0", "\x00"+x.s, false, x.code)
		checkOptions(t, x.name+", behind an option", "\x07\x02ab"+x.s, false, x.code)
		checkOptions(t, x.name+", behind an alert", alertOption+x.s, false, x.code)
		checkOptions(t, x.name+", behind two alerts", alertOption+"\x00"+alertOption+x.s, false, x.code)
	}
}

// TestFirstOfWrongOptions is for P6.4: of several wrong options the first one counts.
func TestFirstOfWrongOptions(t *testing.T) {
	for _, x := range []struct {
		name, s string
		code    api.Errno
	}{
		{"a kind, and a missing length", "\xc2\x00\x07", api.ErrKind},
		{"a kind, and a length too great", "\x40\x01a\x07\x02b", api.ErrKind},
		{"a kind, and both", "\x80\x00\xc2", api.ErrKind},
		{"a kind, and both, behind what is good", alertOption + "\x00\x80\x00\xc2\x09", api.ErrKind},
		{"two kinds", "\x80\x00\x40\x00", api.ErrKind},
		{"a kind, and an alert", "\xc5\x00" + alertOption, api.ErrKind},
		{"a length too great, and a kind that it takes in", "\x07\x05\xc2\x00", api.ErrForm},
		{"a length too great, and an alert that it takes in", "\x07\x05" + alertOption, api.ErrForm},
		{"both, and an alert that it takes in", "\xc2\x05" + alertOption, api.ErrForm},
	} {
		checkOptions(t, x.name, x.s, false, x.code)
	}
}

// TestOptionsOfAllKinds is for P6.4: each kind with each length that matters.
func TestOptionsOfAllKinds(t *testing.T) {
	for kind := 1; kind < 256; kind++ {
		code := api.OK
		if kind/64 != 0 {
			code = api.ErrKind
		}
		checkOptions(t, "no length", bytesFrom(kind), false, api.ErrForm)
		for size := range 256 {
			s := bytesFrom(kind, size) + strings.Repeat("\x00", size)
			checkOptions(t, "just enough", s, kind == 5 && size == 2, code)
			checkOptions(t, "one more", s+"\x00", kind == 5 && size == 2, code)
			checkOptions(t, "an alert behind", s+alertOption, code == api.OK, code)
			if size > 0 {
				checkOptions(t, "one less", s[:len(s)-1], false, api.ErrForm)
				checkOptions(t, "none of them", s[:2], false, api.ErrForm)
			}
		}
	}
}

// TestOptionsOfAlertKind is for P6.4: of all contents of two bytes just one is a router alert.
func TestOptionsOfAlertKind(t *testing.T) {
	for n := range 65536 {
		checkOptions(t, "contents", "\x05\x02"+bytesFrom(n/256, n), n == 0, api.OK)
	}
}

// TestManyOptions is for P6.4: all options of up to six bytes, and many of twelve, of the bytes that matter.
func TestManyOptions(t *testing.T) {
	few := "\x00\x01\x02\x05\x07\x40\xc2"
	all := []string{""}
	for from, size := 0, 0; size < 6; size++ {
		to := len(all)
		for _, s := range all[from:to] {
			for i := range len(few) {
				all = append(all, s+few[i:i+1])
			}
		}
		from = to
	}
	seen := map[api.Errno]int{}
	alerts := 0
	try := func(s string) {
		alert, code := modelOptions(s)
		checkOptions(t, "model", s, alert, code)
		seen[code]++
		if alert {
			alerts++
		}
	}
	for i, s := range all {
		try(s)
		try(s + alertOption)
		try(alertOption + s)
		try(s + all[(i*31+509)%len(all)])
	}
	if len(seen) != 3 || alerts == 0 || alerts == seen[api.OK] {
		t.Errorf("one sided: %v, %d", seen, alerts)
	}
}

// FuzzOptions is for P6.4: whatever s is, Options tells what the model tells.
func FuzzOptions(f *testing.F) {
	f.Add("\x05\x02\x00\x00\x01\x00")
	f.Add("\xc2\x04\x00\x01\x00\x00")
	f.Add("\x00\x07\x02ab\x07\xff")
	f.Fuzz(func(t *testing.T, s string) {
		alert, code := modelOptions(s)
		checkOptions(t, "model", s, alert, code)
	})
}
