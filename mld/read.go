package mld

import (
	"acequia/addr"
	"acequia/api"
	"acequia/code"
	"acequia/octet"
	"acequia/sum"
)

const (
	// How many bytes stand up to and with the checksum.
	aheadSize = 4
	// How many stand behind it: in all messages but reports of Version 2, and at least in queries of Version 2. A query with some more than the first is of no version.
	plainSize = 4 + addrSize
	fullSize  = plainSize + 4
	// What the second byte of a record counts.
	wordSize = 4
)

// Read is the message at the beginning of s, that was on its way between these addresses.
func Read(s string, from, to api.Addr) (api.Talk, api.Errno) {
	switch {
	case !six(from, to):
		return api.Talk{}, api.ErrArg
	case len(s) < headSize:
		return api.Talk{}, api.ErrEnd
	case !sum.Good(pseudo(from, to, len(s)), s):
		return api.Talk{}, api.ErrSum
	}
	r := octet.New(s[aheadSize:])
	t, err := api.Talk{}, api.ErrKind
	switch s[0] {
	case typeQuery:
		t, err = query(r)
	case typeReport1:
		t, err = member(r, api.TReport)
	case typeLeave:
		t, err = member(r, api.TLeave)
	case typeReport2:
		t, err = report(r)
	}
	if err != api.OK {
		return api.Talk{}, err
	}
	return t, api.OK
}

// query passes a query of either version.
func query(r *octet.Reader) (api.Talk, api.Errno) {
	left := r.Left()
	t := api.Talk{V6: true, Version: 1, Kind: api.TQuery, Resp: num(r, 2)}
	r.Take(2)
	t.Group = address(r)
	switch {
	case r.Bad():
		return t, api.ErrEnd
	case left > plainSize && left < fullSize:
		return t, api.ErrForm
	case !goodTarget(t.Group):
		return t, api.ErrForm
	case left > plainSize:
		return queryMore(r, t)
	}
	return t, api.OK
}

// queryMore passes what only queries of Version 2 have, and is t with that.
func queryMore(r *octet.Reader, t api.Talk) (api.Talk, api.Errno) {
	t.Version, t.Resp = 2, code.Value16(t.Resp)
	flags := r.Num(1)
	t.Quiet = octet.Bits(flags, quietBit, 1) == 1
	t.Robust = int(octet.Bits(flags, 0, robustBits))
	t.Every = code.Value8(num(r, 1))
	count := num(r, 2)
	if zero(t.Group) && count > 0 {
		return t, api.ErrForm
	}
	list, err := sources(r, count)
	t.Sources = list
	return t, err
}

// member passes a report or a leave of Version 1.
func member(r *octet.Reader, kind int) (api.Talk, api.Errno) {
	r.Take(plainSize - addrSize)
	t := api.Talk{V6: true, Version: 1, Kind: kind, Group: address(r)}
	switch {
	case r.Bad():
		return t, api.ErrEnd
	case !goodGroup(t.Group):
		return t, api.ErrForm
	}
	return t, api.OK
}

// report passes a report of Version 2. A record of a kind that is not known tells nothing, but those behind it may, so it is left out alone.
func report(r *octet.Reader) (api.Talk, api.Errno) {
	t := api.Talk{V6: true, Version: 2, Kind: api.TReport}
	r.Take(2)
	count := num(r, 2)
	if count > api.MaxRecords {
		return t, api.ErrLong
	}
	for range count {
		next, err := record(r)
		if err != api.OK {
			return t, err
		}
		if goodRecord(next) {
			t.Records = append(t.Records, next)
		}
	}
	return t, api.OK
}

// record passes a record, whatever its kind and its group are.
func record(r *octet.Reader) (api.Record, api.Errno) {
	out := api.Record{Kind: num(r, 1)}
	words, count := num(r, 1), num(r, 2)
	out.Group = address(r)
	if r.Bad() {
		return out, api.ErrEnd
	}
	list, err := sources(r, count)
	if err != api.OK {
		return out, err
	}
	out.Sources = list
	r.Take(wordSize * words)
	return out, end(r)
}

// sources passes that many sources. If they are too many, none of them is looked at.
func sources(r *octet.Reader, count int) ([]api.Addr, api.Errno) {
	if count > api.MaxSources {
		return nil, api.ErrLong
	}
	var out []api.Addr
	for range count {
		out = append(out, address(r))
	}
	return out, end(r)
}

// end is ErrEnd, if more bytes were asked for than there were.
func end(r *octet.Reader) api.Errno {
	if r.Bad() {
		return api.ErrEnd
	}
	return api.OK
}

// num passes the next bytes, wide of them, and is the number that they hold.
func num(r *octet.Reader, wide int) int {
	return int(r.Num(wide))
}

// address passes an address, and is this; zero, if there are fewer bytes left.
func address(r *octet.Reader) api.Addr {
	a, _ := addr.Read(r.Take(addrSize))
	return a
}
