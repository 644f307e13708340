package igmp

import (
	"acequia/addr"
	"acequia/api"
	"acequia/code"
	"acequia/octet"
	"acequia/sum"
)

// How many bytes a query of Version 3 has behind its Group at least; with fewer, but some, it is of no version.
const moreSize = 4

// parser goes over the bytes of a message.
type parser struct{ *octet.Reader }

// Read is the message at the beginning of s.
func Read(s string) (api.Talk, api.Errno) {
	switch {
	case len(s) < headSize:
		return api.Talk{}, api.ErrEnd
	case !sum.Good(s):
		return api.Talk{}, api.ErrSum
	}
	p := parser{octet.New(s)}
	t, err := api.Talk{}, api.ErrKind
	switch p.num(1) {
	case typeQuery:
		t, err = p.query()
	case typeReport1:
		t, err = p.member(1, api.TReport)
	case typeReport2:
		t, err = p.member(2, api.TReport)
	case typeLeave:
		t, err = p.member(2, api.TLeave)
	case typeReport3:
		t, err = p.report()
	}
	if err != api.OK {
		return api.Talk{}, err
	}
	return t, api.OK
}

// query passes a query of any version.
func (p parser) query() (api.Talk, api.Errno) {
	t := api.Talk{Version: 2, Kind: api.TQuery, Resp: p.num(1)}
	p.checksum()
	t.Group = p.addr()
	switch left := p.Left(); {
	case left >= moreSize:
		t.Version, t.Resp = 3, code.Value8(t.Resp)
	case left > 0:
		return t, api.ErrForm
	case t.Resp == 0:
		t.Version = 1
	}
	switch {
	case !goodTarget(t.Group) || t.Version == 1 && !zero(t.Group):
		return t, api.ErrForm
	case t.Version == 3:
		return p.queryMore(t)
	}
	return t, api.OK
}

// queryMore passes what only queries of Version 3 have, and is t with that.
func (p parser) queryMore(t api.Talk) (api.Talk, api.Errno) {
	flags := p.Num(1)
	t.Quiet = octet.Bits(flags, quietBit, 1) == 1
	t.Robust = int(octet.Bits(flags, 0, robustBits))
	t.Every = code.Value8(p.num(1))
	count := p.num(2)
	if zero(t.Group) && count > 0 {
		return t, api.ErrForm
	}
	sources, err := p.sources(count)
	t.Sources = sources
	return t, err
}

// member passes a report or a leave of one of the versions ahead of 3.
func (p parser) member(version, kind int) (api.Talk, api.Errno) {
	p.Take(1)
	p.checksum()
	t := api.Talk{Version: version, Kind: kind, Group: p.addr()}
	if !goodGroup(t.Group) {
		return t, api.ErrForm
	}
	return t, api.OK
}

// report passes a report of Version 3. A record of a kind that is not known tells nothing, but those behind it may, so it is left out alone.
func (p parser) report() (api.Talk, api.Errno) {
	t := api.Talk{Version: 3, Kind: api.TReport}
	p.Take(1)
	p.checksum()
	p.Take(2)
	err := each(p.num(2), api.MaxRecords, func() api.Errno {
		r, err := p.record()
		if err == api.OK && goodRecord(r) {
			t.Records = append(t.Records, r)
		}
		return err
	})
	return t, err
}

// record passes a record, whatever its kind and its group are.
func (p parser) record() (api.Record, api.Errno) {
	r := api.Record{Kind: p.num(1)}
	words, count := p.num(1), p.num(2)
	r.Group = p.addr()
	if p.Bad() {
		return r, api.ErrEnd
	}
	sources, err := p.sources(count)
	if err != api.OK {
		return r, err
	}
	r.Sources = sources
	p.Take(addrSize * words)
	return r, p.end()
}

// sources passes that many sources.
func (p parser) sources(count int) ([]api.Addr, api.Errno) {
	var out []api.Addr
	err := each(count, api.MaxSources, func() api.Errno {
		out = append(out, p.addr())
		return p.end()
	})
	return out, err
}

// each calls next as often as count says, until something is wrong; more than most are too many, and none of these is looked at.
func each(count, most int, next func() api.Errno) api.Errno {
	if count > most {
		return api.ErrLong
	}
	for range count {
		if err := next(); err != api.OK {
			return err
		}
	}
	return api.OK
}

// end is ErrEnd, if more bytes were asked for than there were.
func (p parser) end() api.Errno {
	if p.Bad() {
		return api.ErrEnd
	}
	return api.OK
}

// checksum passes the checksum, which was judged before anything else.
func (p parser) checksum() {
	p.Take(2)
}

// num passes the next bytes, wide of them, and is the number that they hold.
func (p parser) num(wide int) int {
	return int(p.Num(wide))
}

// addr passes an address, and is this; zero, if there are fewer bytes left.
func (p parser) addr() api.Addr {
	a, _ := addr.Read(p.Take(addrSize))
	return a
}
