package mld

import (
	"strings"

	"acequia/addr"
	"acequia/api"
	"acequia/code"
	"acequia/octet"
	"acequia/sum"
)

const checkSize = 2

// The byte of a query that tells its Quiet, and in its lowest bits its Robust.
const (
	robustBits = 3
	quietBit   = robustBits
)

// Write is the bytes of t, if it is good, on its way between these addresses.
func Write(t api.Talk, from, to api.Addr) (string, api.Errno) {
	switch {
	case !six(from, to):
		return "", api.ErrArg
	case !Good(t):
		return "", api.ErrForm
	}
	ahead, behind := nums(1, typeOf(t), 0), rest(t)
	check := sum.Check(pseudo(from, to, len(ahead)+checkSize+len(behind)), ahead, behind)
	return ahead + nums(checkSize, check) + behind, api.OK
}

// pseudo is what the checksum of a message of that size takes in ahead of it.
func pseudo(from, to api.Addr, size int) string {
	return sum.Pseudo(from, to, api.ProtoIcmp6, size)
}

// typeOf is the type of the good message t.
func typeOf(t api.Talk) int {
	switch (shape{t.Version, t.Kind}) {
	case shape{1, api.TReport}:
		return typeReport1
	case shape{1, api.TLeave}:
		return typeLeave
	case shape{2, api.TReport}:
		return typeReport2
	}
	return typeQuery
}

// rest is what stands behind the checksum.
func rest(t api.Talk) string {
	switch (shape{t.Version, t.Kind}) {
	case shape{2, api.TQuery}:
		return nums(2, code.Code16(t.Resp), 0) + addrs(t.Group) + nums(1, flags(t), code.Code8(t.Every)) +
			nums(2, len(t.Sources)) + addrs(t.Sources...)
	case shape{2, api.TReport}:
		return nums(2, 0, len(t.Records)) + records(t.Records...)
	}
	return nums(2, t.Resp, 0) + addrs(t.Group)
}

// flags is the byte that tells Quiet and Robust.
func flags(t api.Talk) int {
	out := uint64(t.Robust)
	if t.Quiet {
		out = octet.Set(out, quietBit, 1, 1)
	}
	return int(out)
}

// records is the bytes of records.
func records(list ...api.Record) string {
	var out strings.Builder
	for _, r := range list {
		out.WriteString(nums(1, r.Kind, 0) + nums(2, len(r.Sources)) + addrs(r.Group) + addrs(r.Sources...))
	}
	return out.String()
}

// nums is the lowest bytes of each number, wide of them.
func nums(wide int, list ...int) string {
	var out strings.Builder
	for _, n := range list {
		out.WriteString(octet.Put(uint64(n), wide))
	}
	return out.String()
}

// addrs is the bytes of addresses.
func addrs(list ...api.Addr) string {
	var out strings.Builder
	for _, a := range list {
		out.WriteString(addr.Bytes(a))
	}
	return out.String()
}
