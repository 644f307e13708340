package frame

import (
	"acequia/api"
	"acequia/ip4"
	"acequia/ip6"
	"acequia/mld"
)

// packet is what frames need of packets of IPv4 and of IPv6. Which of the two it is, tells to.
type packet struct {
	from, to   api.Addr
	proto, hop int
	alert      bool
	body       string
}

// isTalk is whether p holds a message. In the protocol of MLD there are others too, which are data.
func isTalk(p packet) bool {
	if p.to.V6 {
		return p.proto == api.ProtoIcmp6 && mld.Is(p.body)
	}
	return p.proto == api.ProtoIgmp
}

// goodPacket is whether p can be written.
func goodPacket(p packet) bool {
	if p.to.V6 {
		return ip6.Good(packet6(p))
	}
	return ip4.Good(packet4(p))
}

// writePacket is the bytes of the good packet p, and of which type a frame with them is.
func writePacket(p packet) (int, string) {
	if p.to.V6 {
		s, _ := ip6.Write(packet6(p))
		return api.TypeIp6, s
	}
	s, _ := ip4.Write(packet4(p))
	return api.TypeIp4, s
}

// readPacket is the packet at the beginning of s, the body of a frame of that type.
func readPacket(kind int, s string) (packet, api.Errno) {
	if kind == api.TypeIp6 {
		p, err := ip6.Read(s)
		return packet{p.From, p.To, p.Next, p.Hop, p.Alert, p.Body}, err
	}
	p, err := ip4.Read(s)
	return packet{p.From, p.To, p.Proto, p.Ttl, p.Alert, p.Body}, err
}

// packet4 is p as a packet of IPv4.
func packet4(p packet) api.Ip4 {
	return api.Ip4{From: p.from, To: p.to, Proto: p.proto, Ttl: p.hop, Alert: p.alert, Body: p.body}
}

// packet6 is p as a packet of IPv6.
func packet6(p packet) api.Ip6 {
	return api.Ip6{From: p.from, To: p.to, Next: p.proto, Hop: p.hop, Alert: p.alert, Body: p.body}
}
