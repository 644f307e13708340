package mld

import (
	"testing"

	"acequia/api"
)

// sixteen is the address of the bytes of s from at on.
func sixteen(s string, at int) api.Addr {
	a := none()
	for i := range a.B {
		a.B[i] = s[at+i]
	}
	return a
}

// model is what Read should tell: the list of the chapter, word for word.
func model(s string, from, to api.Addr) (api.Talk, api.Errno) {
	if !from.V6 || !to.V6 {
		return api.Talk{}, api.ErrArg
	}
	if len(s) < 8 {
		return api.Talk{}, api.ErrEnd
	}
	if sumOf(header(from, to, len(s))+s) != 65535 {
		return api.Talk{}, api.ErrSum
	}
	t := api.Talk{V6: true, Version: 1}
	switch s[0] {
	case 130:
		t.Kind = api.TQuery
	case 131:
		t.Kind = api.TReport
	case 132:
		t.Kind = api.TLeave
	case 143:
		return modelReport(s)
	default:
		return api.Talk{}, api.ErrKind
	}
	if len(s) < 24 {
		return api.Talk{}, api.ErrEnd
	}
	if t.Kind == api.TQuery && len(s) >= 25 && len(s) <= 27 {
		return api.Talk{}, api.ErrForm
	}
	t.Group = sixteen(s, 8)
	if !isGroup(t.Group) && (t.Kind != api.TQuery || t.Group != none()) {
		return api.Talk{}, api.ErrForm
	}
	if t.Kind != api.TQuery {
		return t, api.OK
	}
	t.Resp = int(s[4])*256 + int(s[5])
	if len(s) == 24 {
		return t, api.OK
	}
	t.Version, t.Resp = 2, value16(t.Resp)
	t.Quiet, t.Robust, t.Every = s[24]/8%2 == 1, int(s[24])%8, value8(int(s[25]))
	count := int(s[26])*256 + int(s[27])
	if t.Group == none() && count > 0 {
		return api.Talk{}, api.ErrForm
	}
	list, code := modelSources(s, 28, count)
	if code != api.OK {
		return api.Talk{}, code
	}
	t.Sources = list
	return t, api.OK
}

// modelReport is the same for reports of Version 2.
func modelReport(s string) (api.Talk, api.Errno) {
	t := api.Talk{V6: true, Version: 2, Kind: api.TReport}
	count := int(s[6])*256 + int(s[7])
	if count > 64 {
		return api.Talk{}, api.ErrLong
	}
	at := 8
	for range count {
		if at+20 > len(s) {
			return api.Talk{}, api.ErrEnd
		}
		has := int(s[at+2])*256 + int(s[at+3])
		list, code := modelSources(s, at+20, has)
		if code != api.OK {
			return api.Talk{}, code
		}
		behind := at + 20 + 16*has + 4*int(s[at+1])
		if behind > len(s) {
			return api.Talk{}, api.ErrEnd
		}
		g := sixteen(s, at+4)
		if s[at] >= 1 && s[at] <= 6 && isGroup(g) {
			t.Records = append(t.Records, api.Record{Kind: int(s[at]), Group: g, Sources: list})
		}
		at = behind
	}
	return t, api.OK
}

// modelSources is count sources of s, from at on.
func modelSources(s string, at, count int) ([]api.Addr, api.Errno) {
	if count > 64 {
		return nil, api.ErrLong
	}
	if at+16*count > len(s) {
		return nil, api.ErrEnd
	}
	var out []api.Addr
	for i := at; i < at+16*count; i += 16 {
		out = append(out, sixteen(s, i))
	}
	return out, api.OK
}

// asModel checks Read of s against the model.
func asModel(t *testing.T, s string) api.Errno {
	t.Helper()
	want, code := model(s, router(), nodes())
	if code != api.OK {
		badly(t, "model", s, code)
	} else {
		well(t, "model", s, want)
	}
	return code
}

// isGood checks that what Read tells of s is good and comes back, unless it is too long.
func isGood(t *testing.T, s string) {
	t.Helper()
	got, err := Read(s, router(), nodes())
	if err != api.OK {
		return
	}
	size := 8
	for _, r := range got.Records {
		size += 20 + 16*len(r.Sources)
	}
	out, code := Write(got, other(), nodes())
	if size > 1400 {
		if Good(got) || code != api.ErrForm {
			t.Errorf("%x: %+v is good", start(s), got)
		}
		return
	}
	back, err := Read(out, other(), nodes())
	if !Good(got) || code != api.OK || err != api.OK || !equal(back, got) {
		t.Errorf("%x: %+v, %v, comes back as %+v, %v", start(s), got, code, back, err)
	}
}

// seeds are the bytes of messages of all kinds.
func seeds() []string {
	ignored := told(7, 1, 1, group(), "sixteen bytes..!word") + told(api.ToEx, 2, 0, next(), "twowords") + told(api.ToIn, 0, 1, host(), "sixteen bytes..!")
	out := []string{asking(none(), 0, ""), asking(group(), 1, "sixteen bytes..!ab"), telling(0, ""), telling(3, ignored), telling(2, ignored),
		telling(64, ignored), telling(65, ignored), telling(1, told(1, 0, 65, group(), "abcd")), asking(group(), 65, "abcd")}
	for _, x := range shapes() {
		out = append(out, written(x.talk))
	}
	return out
}

// TestReadAsModel is for P9.3 and P9.4: messages in which a byte or two are others, cut at all places, and with more behind.
func TestReadAsModel(t *testing.T) {
	seen := map[api.Errno]int{}
	check := func(s string) {
		seen[asModel(t, s)]++
		isGood(t, s)
	}
	for _, s := range seeds() {
		for at := range s {
			for b := range 256 {
				// Far behind the heads there are sources and words alone, of which some values tell enough.
				if at >= 48 && b%8 > 0 {
					continue
				}
				x := s[:at] + bytesFrom(b) + s[at+1:]
				check(sealed(x))
				if b%8 == 0 {
					check(x)
					check(sealed(x + "behind"))
					check(sealed(x[:max(8, len(x)-b%9)]))
					check(patched(x, (at+b)%len(s), bytesFrom(b*7)))
				}
			}
		}
		for size := range len(s) {
			check(s[:size])
			if size > 3 {
				check(sealed(s[:size]))
			}
		}
	}
	for _, code := range []api.Errno{api.OK, api.ErrForm, api.ErrEnd, api.ErrSum, api.ErrKind, api.ErrLong} {
		if seen[code] == 0 {
			t.Errorf("%v was never told", code)
		}
	}
}

// TestReadOdd is for P9.3: texts of odd sizes are summed with a byte 0 behind them.
func TestReadOdd(t *testing.T) {
	all := written(report2()) + "and so much more behind it that all is over one hundred bytes"
	for size := 8; size < len(all); size++ {
		asModel(t, sealed(all[:size]))
		asModel(t, sealed(all[:size]+"\x00"))
		asModel(t, sealed(all[:size])+"\x00")
		asModel(t, sealed(all[:size])+"\x00\x00")
	}
}

// FuzzRead is for P9.3 and P9.4: whatever s is, Read tells what the model tells, and what is read is good and can be written.
func FuzzRead(f *testing.F) {
	for _, s := range seeds() {
		f.Add(s)
	}
	f.Fuzz(func(t *testing.T, s string) {
		asModel(t, s)
		if len(s) > 3 {
			asModel(t, sealed(s))
			isGood(t, sealed(s))
		}
	})
}
