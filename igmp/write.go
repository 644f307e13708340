package igmp

import (
	"strings"

	"acequia/addr"
	"acequia/api"
	"acequia/code"
	"acequia/octet"
	"acequia/sum"
)

// The types of messages. All queries have the same one: it is their size that tells the version.
const (
	typeQuery   = 0x11
	typeReport1 = 0x12
	typeReport2 = 0x16
	typeLeave   = 0x17
	typeReport3 = 0x22
)

// The byte of a query that tells its Quiet, and in its lowest bits its Robust.
const (
	robustBits = 3
	quietBit   = robustBits
)

// writer puts bytes behind each other.
type writer struct{ strings.Builder }

// Write is the bytes of t, if it is good.
func Write(t api.Talk) (string, api.Errno) {
	if !Good(t) {
		return "", api.ErrForm
	}
	var ahead, behind writer
	ahead.num(typeOf(t), 1)
	ahead.num(respOf(t), 1)
	switch (shape{t.Version, t.Kind}) {
	case shape{3, api.TQuery}:
		behind.query(t)
	case shape{3, api.TReport}:
		behind.report(t.Records)
	default:
		behind.addrs(t.Group)
	}
	check := sum.Check(ahead.String(), behind.String())
	return ahead.String() + octet.Put(uint64(check), 2) + behind.String(), api.OK
}

// typeOf is the type of the good message t.
func typeOf(t api.Talk) int {
	switch (shape{t.Version, t.Kind}) {
	case shape{1, api.TReport}:
		return typeReport1
	case shape{2, api.TReport}:
		return typeReport2
	case shape{2, api.TLeave}:
		return typeLeave
	case shape{3, api.TReport}:
		return typeReport3
	}
	return typeQuery
}

// respOf is the byte that stands for the Resp of t.
func respOf(t api.Talk) int {
	if t.Version == 3 {
		return code.Code8(t.Resp)
	}
	return t.Resp
}

// query puts down what stands behind the checksum of a query of Version 3.
func (w *writer) query(t api.Talk) {
	flags := uint64(t.Robust)
	if t.Quiet {
		flags = octet.Set(flags, quietBit, 1, 1)
	}
	w.addrs(t.Group)
	w.num(int(flags), 1)
	w.num(code.Code8(t.Every), 1)
	w.num(len(t.Sources), 2)
	w.addrs(t.Sources...)
}

// report puts down what stands behind the checksum of a report of Version 3.
func (w *writer) report(records []api.Record) {
	w.num(0, 2)
	w.num(len(records), 2)
	for _, r := range records {
		w.num(r.Kind, 1)
		w.num(0, 1)
		w.num(len(r.Sources), 2)
		w.addrs(r.Group)
		w.addrs(r.Sources...)
	}
}

// num puts down the lowest bytes of n, wide of them.
func (w *writer) num(n, wide int) {
	w.WriteString(octet.Put(uint64(n), wide))
}

// addrs puts down addresses.
func (w *writer) addrs(list ...api.Addr) {
	for _, a := range list {
		w.WriteString(addr.Bytes(a))
	}
}
