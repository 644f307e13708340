package frame

import (
	"acequia/addr"
	"acequia/api"
	"acequia/ether"
	"acequia/igmp"
	"acequia/mld"
)

// Read is what the frame b says.
func Read(b string) (api.Said, api.Errno) {
	e, err := ether.Read(b)
	switch {
	case err != api.OK:
		return api.Said{}, err
	case e.Type != api.TypeIp4 && e.Type != api.TypeIp6:
		return other(e), api.OK
	}
	p, err := readPacket(e.Type, e.Body)
	to, many := addr.Mac(p.to)
	switch {
	case err != api.OK:
		return api.Said{}, err
	case addr.Group(p.from):
		return api.Said{}, api.ErrForm
	case !many:
		return other(e), api.OK
	case e.To != to:
		return api.Said{}, api.ErrForm
	case isTalk(p):
		return readTalk(e.Vlan, p)
	}
	return api.Said{Kind: api.SData, Vlan: e.Vlan, From: p.from, To: p.to, Proto: p.proto, Hop: p.hop, Data: p.body}, api.OK
}

// other is what a frame says that is of no use but on its segment.
func other(e api.Ether) api.Said {
	return api.Said{Kind: api.SOther, Vlan: e.Vlan}
}

// readTalk is what a frame on that segment says with the message that p holds.
func readTalk(vlan int, p packet) (api.Said, api.Errno) {
	t, err := takeTalk(p)
	if err != api.OK {
		return api.Said{}, err
	}
	s := api.Said{Kind: api.STalk, Vlan: vlan, From: p.from, To: p.to, Talk: t}
	if p.hop != talkHop || needsAlert(t) && !p.alert || !Good(s) {
		return api.Said{}, api.ErrForm
	}
	return s, api.OK
}

// takeTalk is the message that p holds.
func takeTalk(p packet) (api.Talk, api.Errno) {
	if p.to.V6 {
		return mld.Read(p.body, p.from, p.to)
	}
	return igmp.Read(p.body)
}
