package frame

import (
	"testing"

	"acequia/api"
	"acequia/ether"
	"acequia/igmp"
	"acequia/ip4"
	"acequia/ip6"
	"acequia/mld"
)

// model is what Read should tell: the list of the chapter, word for word.
func model(b string) (api.Said, api.Errno) {
	e, code := ether.Read(b)
	if code != api.OK {
		return api.Said{}, code
	}
	switch e.Type {
	case 0x0800:
		return model4(e)
	case 0x86dd:
		return model6(e)
	}
	return nothing(e.Vlan), api.OK
}

// model4 is the same for frames that contain IPv4.
func model4(e api.Ether) (api.Said, api.Errno) {
	p, code := ip4.Read(e.Body)
	if code != api.OK {
		return api.Said{}, code
	}
	if p.From.B[0] >= 224 && p.From.B[0] < 240 {
		return api.Said{}, api.ErrForm
	}
	if p.To.B[0] < 224 || p.To.B[0] >= 240 {
		return nothing(e.Vlan), api.OK
	}
	if string(e.To[:]) != macOf(p.To) {
		return api.Said{}, api.ErrForm
	}
	if p.Proto != 2 {
		return api.Said{Kind: 2, Vlan: e.Vlan, From: p.From, To: p.To, Proto: p.Proto, Hop: p.Ttl, Data: p.Body}, api.OK
	}
	m, code := igmp.Read(p.Body)
	if code != api.OK {
		return api.Said{}, code
	}
	to := m.Group
	switch {
	case m.Kind == api.TLeave:
		to = at("224.0.0.2")
	case m.Kind == api.TReport && m.Version == 3:
		to = at("224.0.0.22")
	case m.Kind == api.TQuery && m.Group == none4():
		to = at("224.0.0.1")
	}
	if p.Ttl != 1 || m.Version != 1 && !p.Alert || p.To != to {
		return api.Said{}, api.ErrForm
	}
	return api.Said{Kind: 1, Vlan: e.Vlan, From: p.From, To: p.To, Talk: m}, api.OK
}

// model6 is the same for frames that contain IPv6.
func model6(e api.Ether) (api.Said, api.Errno) {
	p, code := ip6.Read(e.Body)
	if code != api.OK {
		return api.Said{}, code
	}
	if p.From.B[0] == 255 {
		return api.Said{}, api.ErrForm
	}
	if p.To.B[0] != 255 {
		return nothing(e.Vlan), api.OK
	}
	if string(e.To[:]) != macOf(p.To) {
		return api.Said{}, api.ErrForm
	}
	like := p.Body != "" && (p.Body[0] == 130 || p.Body[0] == 131 || p.Body[0] == 132 || p.Body[0] == 143)
	if p.Next != 58 || !like {
		return api.Said{Kind: 2, Vlan: e.Vlan, From: p.From, To: p.To, Proto: p.Next, Hop: p.Hop, Data: p.Body}, api.OK
	}
	m, code := mld.Read(p.Body, p.From, p.To)
	if code != api.OK {
		return api.Said{}, code
	}
	to := m.Group
	switch {
	case m.Kind == api.TLeave:
		to = at("ff02::2")
	case m.Kind == api.TReport && m.Version == 2:
		to = at("ff02::16")
	case m.Kind == api.TQuery && m.Group == none6():
		to = at("ff02::1")
	}
	onLink := p.From.B[0] == 254 && p.From.B[1] >= 128 && p.From.B[1] < 192
	if p.Hop != 1 || !p.Alert || !onLink && (m.Kind == api.TQuery || p.From != none6()) || p.To != to {
		return api.Said{}, api.ErrForm
	}
	return api.Said{Kind: 1, Vlan: e.Vlan, From: p.From, To: p.To, Talk: m}, api.OK
}

// asModel checks Read of b against the model, and that what it tells is good and comes back, unless it is nothing.
func asModel(t *testing.T, b string) {
	t.Helper()
	want, code := model(b)
	if code != api.OK {
		badly(t, "model", b, code)
		return
	}
	well(t, "model", b, want)
	out, err := Write(want, mac())
	if want.Kind == api.SOther {
		bad(t, "nothing", want)
		return
	}
	if !Good(want) || err != api.OK {
		t.Errorf("%x: %+v is not good, %v", start(b), want, err)
	}
	well(t, "written anew", out, want)
}

// mended is b with all checksums right that can be found in it.
func mended(b string) string {
	e, code := ether.Read(b)
	if code != api.OK || len(e.Body) < 48 {
		return b
	}
	p := e.Body
	if e.Type == 0x0800 {
		head := max(int(p[0]%16)*4, 20)
		if head+8 <= len(p) && p[9] == 2 {
			p = p[:head] + sealed4(p[head:])
		}
		check := checkOf(p[:10] + p[12:min(head, len(p))])
		p = p[:10] + bytesFrom(check>>8, check) + p[12:]
	} else if q, code := ip6.Read(p); code == api.OK && q.Next == 58 && len(q.Body) >= 8 {
		ahead := int(p[4])*256 + int(p[5]) + 40 - len(q.Body)
		p = p[:ahead] + sealed6(q.Body, q.From, q.To) + p[ahead+len(q.Body):]
	}
	return b[:len(b)-len(p)] + p
}

// TestReadAsModel is for P10.4 and P10.5: frames in which a byte is another one, with the checksums as they were and made right, and frames that are cut.
func TestReadAsModel(t *testing.T) {
	seen := map[api.Errno]int{}
	check := func(b string) {
		asModel(t, b)
		_, code := Read(b)
		seen[code]++
	}
	for _, x := range plain() {
		b := written(x.said)
		for size := range len(b) {
			check(b[:size])
			check(mended(b[:size]))
		}
		for place := range b {
			for n := range 256 {
				// Deep in a message there are few bytes that frames ask about.
				if place > 100 && n%16 > 0 {
					continue
				}
				y := b[:place] + bytesFrom(n) + b[place+1:]
				check(y)
				check(mended(y))
			}
		}
	}
	for _, code := range []api.Errno{api.OK, api.ErrForm, api.ErrEnd, api.ErrSum, api.ErrKind, api.ErrLong} {
		if seen[code] == 0 {
			t.Errorf("%v was never told", code)
		}
	}
}

// FuzzRead is for P10.4 and P10.5: whatever b is, Read tells what the model tells.
func FuzzRead(f *testing.F) {
	for _, x := range plain() {
		f.Add(written(x.said))
	}
	f.Fuzz(func(t *testing.T, b string) {
		asModel(t, b)
		asModel(t, mended(b))
	})
}
