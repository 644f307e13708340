package frame

import (
	"acequia/addr"
	"acequia/api"
	"acequia/ether"
	"acequia/igmp"
	"acequia/mld"
)

// Messages stay on their link.
const talkHop = 1

// Write is the frame that says s, if this is good, from that address of Ethernet.
func Write(s api.Said, from api.Mac) (string, api.Errno) {
	if !Good(s) {
		return "", api.ErrForm
	}
	to, _ := addr.Mac(s.To)
	e := api.Ether{To: to, From: from, Tagged: s.Vlan > 0, Vlan: s.Vlan}
	if s.Kind == api.STalk {
		e.Type, e.Body = writePacket(talkPacket(s))
	} else {
		e.Type, e.Body = writePacket(dataPacket(s))
	}
	return ether.Write(e)
}

// talkPacket is the packet with the good message of s.
func talkPacket(s api.Said) packet {
	p := packet{from: s.From, to: s.To, hop: talkHop, alert: needsAlert(s.Talk)}
	if s.Talk.V6 {
		p.proto = api.ProtoIcmp6
		p.body, _ = mld.Write(s.Talk, s.From, s.To)
	} else {
		p.proto = api.ProtoIgmp
		p.body, _ = igmp.Write(s.Talk)
	}
	return p
}

// dataPacket is the packet with the data of s.
func dataPacket(s api.Said) packet {
	return packet{from: s.From, to: s.To, proto: s.Proto, hop: s.Hop, body: s.Data}
}

// needsAlert is whether routers are to look at the packet with the message t. Version 1 of IGMP is older than the alert.
func needsAlert(t api.Talk) bool {
	return t.V6 || t.Version > 1
}
