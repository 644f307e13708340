package igmp

import (
	"testing"

	"acequia/addr"
	"acequia/api"
)

// model is what Read should tell: the list of the chapter, word for word.
func model(s string) (api.Talk, api.Errno) {
	if len(s) < 8 {
		return api.Talk{}, api.ErrEnd
	}
	if sumOf(s) != 65535 {
		return api.Talk{}, api.ErrSum
	}
	g := addr.Ip4(s[4], s[5], s[6], s[7])
	t := api.Talk{Group: g}
	switch s[0] {
	case 0x11:
		t.Kind = api.TQuery
		if len(s) >= 9 && len(s) <= 11 {
			return api.Talk{}, api.ErrForm
		}
		t.Version = 3
		if len(s) == 8 && s[1] == 0 {
			t.Version = 1
		} else if len(s) == 8 {
			t.Version = 2
		}
	case 0x12:
		t.Version, t.Kind = 1, api.TReport
	case 0x16:
		t.Version, t.Kind = 2, api.TReport
	case 0x17:
		t.Version, t.Kind = 2, api.TLeave
	case 0x22:
		return modelReport(s)
	default:
		return api.Talk{}, api.ErrKind
	}
	none := g == api.Addr{}
	if !isGroup(g) && !none || t.Kind == api.TQuery && t.Version == 1 && !none || t.Kind != api.TQuery && !isGroup(g) {
		return api.Talk{}, api.ErrForm
	}
	if t.Kind != api.TQuery || t.Version == 1 {
		return t, api.OK
	}
	if t.Version == 2 {
		t.Resp = int(s[1])
		return t, api.OK
	}
	t.Resp, t.Quiet, t.Robust, t.Every = value8(int(s[1])), s[8]/8%2 == 1, int(s[8])%8, value8(int(s[9]))
	count := int(s[10])*256 + int(s[11])
	if none && count > 0 {
		return api.Talk{}, api.ErrForm
	}
	list, code := modelSources(s, 12, count)
	if code != api.OK {
		return api.Talk{}, code
	}
	t.Sources = list
	return t, api.OK
}

// modelReport is the same for reports of Version 3.
func modelReport(s string) (api.Talk, api.Errno) {
	t := api.Talk{Version: 3, Kind: api.TReport}
	count := int(s[6])*256 + int(s[7])
	if count > 64 {
		return api.Talk{}, api.ErrLong
	}
	at := 8
	for range count {
		if at+8 > len(s) {
			return api.Talk{}, api.ErrEnd
		}
		has := int(s[at+2])*256 + int(s[at+3])
		list, code := modelSources(s, at+8, has)
		if code != api.OK {
			return api.Talk{}, code
		}
		behind := at + 8 + 4*has + 4*int(s[at+1])
		if behind > len(s) {
			return api.Talk{}, api.ErrEnd
		}
		g := addr.Ip4(s[at+4], s[at+5], s[at+6], s[at+7])
		if s[at] >= 1 && s[at] <= 6 && isGroup(g) {
			t.Records = append(t.Records, api.Record{Kind: int(s[at]), Group: g, Sources: list})
		}
		at = behind
	}
	return t, api.OK
}

// modelSources is count sources of s, from at on.
func modelSources(s string, at, count int) ([]api.Addr, api.Errno) {
	if count > 64 {
		return nil, api.ErrLong
	}
	if at+4*count > len(s) {
		return nil, api.ErrEnd
	}
	var out []api.Addr
	for i := at; i < at+4*count; i += 4 {
		out = append(out, addr.Ip4(s[i], s[i+1], s[i+2], s[i+3]))
	}
	return out, api.OK
}

// asModel checks Read of s against the model.
func asModel(t *testing.T, s string) api.Errno {
	t.Helper()
	want, code := model(s)
	if code != api.OK {
		badly(t, "model", s, code)
	} else {
		well(t, "model", s, want)
	}
	return code
}

// isGood checks that what Read tells of s is good and comes back, unless it is too long.
func isGood(t *testing.T, s string) {
	t.Helper()
	got, err := Read(s)
	if err != api.OK {
		return
	}
	size := 8
	for _, r := range got.Records {
		size += 8 + 4*len(r.Sources)
	}
	out, code := Write(got)
	if size > 1400 {
		if Good(got) || code != api.ErrForm {
			t.Errorf("%x: %+v is good", start(s), got)
		}
		return
	}
	back, err := Read(out)
	if !Good(got) || code != api.OK || err != api.OK || !equal(back, got) || !Same(back, got) {
		t.Errorf("%x: %+v, %v, comes back as %+v, %v", start(s), got, code, back, err)
	}
}

// seeds are the bytes of messages of all kinds.
func seeds() []string {
	ignored := told(7, 1, 1, group(), "10.9word") + told(api.ToEx, 2, 0, next(), "twowords") + told(api.ToIn, 0, 1, host(), "abcd")
	out := []string{asking(api.Addr{}, 0, ""), asking(group(), 1, "abcdef"), telling(0, ""), telling(3, ignored), telling(2, ignored),
		telling(64, ignored), telling(65, ignored), telling(1, told(1, 0, 65, group(), "abcd")), asking(group(), 65, "abcd")}
	for _, x := range shapes() {
		out = append(out, written(x.talk))
	}
	return out
}

// TestReadAsModel is for P8.3 and P8.4: messages in which a byte or two are others, cut at all places, and with more behind.
func TestReadAsModel(t *testing.T) {
	seen := map[api.Errno]int{}
	check := func(s string) {
		seen[asModel(t, s)]++
		isGood(t, s)
	}
	for _, s := range seeds() {
		for at := range s {
			for b := range 256 {
				x := s[:at] + bytesFrom(b) + s[at+1:]
				check(x)
				check(sealed(x))
				check(sealed(x + "behind"))
				check(sealed(x[:max(8, len(x)-b%9)]))
				other := (at + b) % len(s)
				check(patched(x, other, bytesFrom(b*7)))
			}
		}
		for size := range len(s) {
			check(s[:size])
			if size > 3 {
				check(sealed(s[:size]))
			}
		}
	}
	for _, code := range []api.Errno{api.OK, api.ErrForm, api.ErrEnd, api.ErrSum, api.ErrKind, api.ErrLong} {
		if seen[code] == 0 {
			t.Errorf("%v was never told", code)
		}
	}
}

// TestReadOdd is for P8.3: texts of odd sizes are summed with a byte 0 behind them.
func TestReadOdd(t *testing.T) {
	for size := 8; size < 60; size++ {
		all := written(fullReport()) + "and so much more behind it that all is over sixty bytes"
		asModel(t, sealed(all[:size]))
		asModel(t, sealed(all[:size]+"\x00"))
		asModel(t, sealed(all[:size])+"\x00")
		asModel(t, sealed(all[:size])+"\x00\x00")
	}
}

// FuzzRead is for P8.3 and P8.4: whatever s is, Read tells what the model tells, and what is read is good and can be written.
func FuzzRead(f *testing.F) {
	for _, s := range seeds() {
		f.Add(s)
	}
	f.Fuzz(func(t *testing.T, s string) {
		asModel(t, s)
		if len(s) > 3 {
			asModel(t, sealed(s))
			isGood(t, sealed(s))
		}
	})
}
