package compat

import (
	"math"
	"math/rand"
	"slices"
	"testing"

	"acequia/addr"
	"acequia/api"
	"acequia/code"
	"acequia/igmp"
	"acequia/mld"
)

// model says what the calls should answer, by other roads: the versions of a family stand in a row, from the oldest to the latest.
type model struct{ versions []int }

func newModel(v6 bool) model {
	if v6 {
		return model{[]int{1, 2}}
	}
	return model{[]int{1, 2, 3}}
}

func (m model) last() int {
	return slices.Max(m.versions)
}

// records is a report of the latest version as it is; any other message of a host is of the kind that it comes to, if it comes to one.
func (m model) records(t api.Talk) []api.Record {
	if t.Kind == 2 && t.Version == m.last() {
		return t.Records
	}
	comes := []int{2: api.IsEx, 3: api.ToIn}
	if t.Kind < 2 || 3 < t.Kind {
		return nil
	}
	return []api.Record{{Kind: comes[t.Kind], Group: t.Group, Sources: nil}}
}

func (m model) older(t api.Talk) int {
	if t.Kind != 2 || t.Version >= m.last() {
		return 0
	}
	return t.Version
}

// mode is the oldest version that has hosts: the latest one always has.
func (m model) mode(now, one, two int) int {
	until := map[int]int{1: one, 2: two}
	for _, version := range m.versions {
		if time, is := until[version]; version == m.last() || is && now < time {
			return version
		}
	}
	return -1
}

// cut asks of a record whether it can be told in the mode, and then whether its sources can.
func (m model) cut(mode int, r api.Record) (api.Record, bool) {
	whole := !(mode < m.last())
	oldest := mode == 1 && len(m.versions) == 3
	lost := r.Kind == 6 || oldest && r.Kind == 3
	if lost && !whole {
		return api.Record{}, false
	}
	out := api.Record{Kind: r.Kind, Group: r.Group}
	if whole || r.Kind != 4 {
		out.Sources = r.Sources
	}
	return out, true
}

// asModel tells what the calls answer otherwise than the model does.
func asModel(t *testing.T, talk api.Talk, mode, now, one, two int) {
	t.Helper()
	m := newModel(talk.V6)
	if got, want := Records(talk), m.records(talk); !sameRecords(got, want) {
		t.Fatalf("Records(%+v) = %+v, not %+v", talk, got, want)
	}
	if got, want := Older(talk), m.older(talk); got != want {
		t.Fatalf("Older(%+v) = %d, not %d", talk, got, want)
	}
	if got, want := Mode(talk.V6, now, one, two), m.mode(now, one, two); got != want {
		t.Fatalf("Mode(%s, %d, %d, %d) = %d, not %d", family(talk.V6), now, one, two, got, want)
	}
	for _, r := range talk.Records {
		got, ok := Cut(talk.V6, mode, r)
		if want, wantOk := m.cut(mode, r); ok != wantOk || !sameRecord(got, want) {
			t.Fatalf("Cut(%s, %d, %+v) = %+v, %t, not %+v, %t", family(talk.V6), mode, r, got, ok, want, wantOk)
		}
	}
}

// edges are numbers that times, modes, versions and kinds are drawn from.
func edges(r *rand.Rand) int {
	if r.Intn(5) == 0 {
		return []int{math.MinInt, math.MinInt + 1, math.MaxInt - 1, math.MaxInt, 100, -100, api.MaxTime}[r.Intn(7)]
	}
	return r.Intn(9) - 2
}

// anyAddr is one of few addresses: groups and sources of both families, and some that are not good.
func anyAddr(r *rand.Rand) api.Addr {
	v6 := r.Intn(2) == 0
	switch r.Intn(6) {
	case 0:
		return api.Addr{V6: v6}
	case 1:
		return api.Addr{B: [16]byte{0: 239, 3: 1, 7: 1}}
	case 2, 3:
		return group(v6)
	}
	return source(v6, byte(r.Intn(4)))
}

func anyList(r *rand.Rand) list {
	out := make(list, 0, r.Intn(8))
	for range r.Intn(5) {
		out = append(out, anyAddr(r))
	}
	return out
}

// anyTalk is a message of whatever fields, seldom a good one.
func anyTalk(r *rand.Rand) api.Talk {
	t := api.Talk{V6: r.Intn(2) == 0, Version: edges(r), Kind: edges(r), Resp: edges(r), Group: anyAddr(r), Quiet: r.Intn(2) == 0, Robust: edges(r), Every: edges(r), Sources: anyList(r)}
	for range r.Intn(5) {
		t.Records = append(t.Records, api.Record{Kind: edges(r), Group: anyAddr(r), Sources: anyList(r)})
	}
	return t
}

// TestDrawn is for P16.1 to P16.3: messages, times and modes of whatever kind.
func TestDrawn(t *testing.T) {
	r := rand.New(rand.NewSource(16))
	for range 60000 {
		now := edges(r)
		one, two := now+r.Intn(5)-2, now+r.Intn(5)-2
		if r.Intn(3) == 0 {
			one, two = edges(r), edges(r)
		}
		asModel(t, anyTalk(r), edges(r), now, one, two)
	}
}

// TestNear is for P16.2: all of the nearest times around 0 and around the ends of int.
func TestNear(t *testing.T) {
	times := []int{math.MinInt, math.MinInt + 1, math.MinInt + 2, -2, -1, 0, 1, 2, math.MaxInt - 2, math.MaxInt - 1, math.MaxInt}
	for _, v6 := range families() {
		for _, now := range times {
			for _, one := range times {
				for _, two := range times {
					asModel(t, api.Talk{V6: v6}, 0, now, one, two)
				}
			}
		}
	}
}

// isGood is whether t is a good message of its family.
func isGood(t api.Talk) bool {
	if t.V6 {
		return mld.Good(t)
	}
	return igmp.Good(t)
}

// goodGroup is a group of that family.
func goodGroup(r *rand.Rand, v6 bool) api.Addr {
	if v6 {
		return api.Addr{V6: true, B: [16]byte{0: 0xff, 1: byte(r.Intn(256)), 2: byte(r.Intn(3)), 15: byte(r.Intn(256))}}
	}
	return addr.Ip4(byte(224+r.Intn(16)), byte(r.Intn(256)), 0, byte(r.Intn(256)))
}

func goodSources(r *rand.Rand, v6 bool) list {
	count := r.Intn(4)
	if r.Intn(10) == 0 {
		count = 60 + r.Intn(5)
	}
	var out list
	for range count {
		out = append(out, source(v6, byte(r.Intn(256))))
	}
	return out
}

// goodReport is a report of the latest version, most of the time a good one: at times it is too long.
func goodReport(r *rand.Rand, v6 bool) api.Talk {
	count := r.Intn(6)
	if r.Intn(8) == 0 {
		count = 62 + r.Intn(3)
	}
	t := api.Talk{V6: v6, Version: Last(v6), Kind: api.TReport}
	for range count {
		t.Records = append(t.Records, api.Record{Kind: 1 + r.Intn(6), Group: goodGroup(r, v6), Sources: goodSources(r, v6)})
	}
	return t
}

// goodOther is a message without records that is good.
func goodOther(r *rand.Rand, v6 bool) api.Talk {
	t := api.Talk{V6: v6, Version: 1, Kind: api.TReport, Group: goodGroup(r, v6)}
	switch r.Intn(4) {
	case 0:
		return t
	case 1:
		t.Kind = api.TLeave
		t.Version = Last(v6) - 1
	case 2:
		t.Version = Last(v6) - 1
	default:
		t.Kind, t.Version = api.TQuery, Last(v6)
		t.Resp, t.Every, t.Robust, t.Quiet = code.Value8(r.Intn(256)), code.Value8(r.Intn(256)), r.Intn(8), r.Intn(2) == 0
		t.Sources = goodSources(r, v6)
	}
	return t
}

// laid is t with the record r in the place i.
func laid(t api.Talk, i int, r api.Record) api.Talk {
	t.Records = slices.Clone(t.Records)
	t.Records[i] = r
	return t
}

// TestGood is for P16.4: what Cut makes of a record of a good message makes a good message in its place, and so do all of them together.
func TestGood(t *testing.T) {
	r := rand.New(rand.NewSource(164))
	cut, good := 0, 0
	for range 20000 {
		talk := goodReport(r, r.Intn(2) == 0)
		if !isGood(talk) {
			continue
		}
		good++
		for _, mode := range []int{math.MinInt, -1, 0, 1, 2, 3, 4, math.MaxInt} {
			all := talk
			all.Records = nil
			for i, x := range talk.Records {
				y, ok := Cut(talk.V6, mode, x)
				if !ok {
					continue
				}
				if !isGood(laid(talk, i, y)) {
					t.Fatalf("%+v with %+v in place %d is not good", talk, y, i)
				}
				if !sameRecord(x, y) {
					cut++
				}
				all.Records = append(all.Records, y)
			}
			if !isGood(all) {
				t.Fatalf("what mode %d leaves of %+v is not good", mode, talk)
			}
		}
	}
	if good < 10000 || cut < 10000 {
		t.Errorf("only %d messages were good, and %d records were cut", good, cut)
	}
}

// TestGoodRecords is for P16.1 and P16.4: what a good message says as records makes a good report of the latest version, and is the same once more; so does what Cut makes of it.
func TestGoodRecords(t *testing.T) {
	r := rand.New(rand.NewSource(161))
	for range 20000 {
		talk := goodOther(r, r.Intn(2) == 0)
		if !isGood(talk) {
			t.Fatalf("%+v is not good", talk)
		}
		asModel(t, talk, 0, 0, 0, 0)
		told := Records(talk)
		report := api.Talk{V6: talk.V6, Version: Last(talk.V6), Kind: api.TReport, Records: told}
		if !isGood(report) || !sameRecords(Records(report), told) || Older(report) != 0 {
			t.Fatalf("%+v came to %+v", talk, told)
		}
		if got := Older(talk); (got != 0) != (talk.Kind == api.TReport) {
			t.Fatalf("Older(%+v) = %d", talk, got)
		}
		for i, x := range told {
			if y, ok := Cut(talk.V6, edges(r), x); ok && !isGood(laid(report, i, y)) {
				t.Fatalf("%+v came to %+v", talk, y)
			}
		}
	}
}

// spare is l with room behind it that others could write to, and what stands there.
func spare(l list) list {
	return append(slices.Clone(l), source(false, 77), source(true, 78), group(false))[:len(l)]
}

// hold is a message that was handed in, with what it and the room behind its lists were.
type hold struct {
	talk  api.Talk
	lists []list
	was   []list
	rows  []api.Record
}

// newHold gives t lists of its own with room behind them, and keeps how they are.
func newHold(t api.Talk) hold {
	h := hold{talk: t}
	h.talk.Sources = spare(t.Sources)
	h.lists = append(h.lists, h.talk.Sources)
	rows := make([]api.Record, 0, len(t.Records)+2)
	for _, r := range append(slices.Clone(t.Records), record(false, 70, 1), record(true, 71, 2)) {
		r.Sources = spare(r.Sources)
		rows = append(rows, r)
		h.lists = append(h.lists, r.Sources)
	}
	h.talk.Records = rows[:len(t.Records)]
	h.rows = slices.Clone(rows)
	for _, l := range h.lists {
		h.was = append(h.was, slices.Clone(l[:cap(l)]))
	}
	return h
}

// stayed tells if what was handed in has changed.
func (h hold) stayed(t *testing.T) {
	t.Helper()
	for i, l := range h.lists {
		if !slices.Equal(l[:cap(l)], h.was[i]) {
			t.Fatalf("list %d of %+v was changed", i, h.talk)
		}
	}
	if rows := h.talk.Records; !sameRecords(rows[:len(h.rows)], h.rows) {
		t.Fatalf("the records were changed: %+v", rows)
	}
}

// apart tells if one of the results is memory of what was handed in, or of another result: it overwrites them one after the other, with the room behind them.
func (h hold) apart(t *testing.T, results ...[]api.Record) {
	t.Helper()
	h.stayed(t)
	var before [][]api.Record
	for _, l := range results {
		before = append(before, deep(l))
	}
	for i, l := range results {
		if !sameRecords(l, before[i]) {
			t.Fatalf("result %d is another's memory", i)
		}
		for j := range l {
			if !sameRecord(l[j], before[i][j]) {
				t.Fatalf("the list of record %d is another's memory", j)
			}
			room := l[j].Sources[:cap(l[j].Sources)]
			for k := range room {
				room[k] = api.Addr{V6: true, B: [16]byte{9, 9}}
			}
		}
		for j := range l[:cap(l)] {
			l[:cap(l)][j] = api.Record{Kind: 99}
		}
		h.stayed(t)
	}
}

// deep is l with lists of its own.
func deep(l []api.Record) []api.Record {
	out := slices.Clone(l)
	for i := range out {
		out[i].Sources = slices.Clone(out[i].Sources)
	}
	return out
}

// TestMemory is for the whole: what is handed in stays as it was, with the room behind it, and what comes is memory of its own, once and twice.
func TestMemory(t *testing.T) {
	r := rand.New(rand.NewSource(17))
	for range 3000 {
		talk := anyTalk(r)
		if r.Intn(2) == 0 {
			talk = goodReport(r, talk.V6)
		}
		h := newHold(talk)
		if len(talk.Records) > 1 && r.Intn(2) == 0 {
			// Two records of one list: what comes shares none even so.
			h.talk.Records[1].Sources, h.rows[1].Sources = h.talk.Records[0].Sources, h.rows[0].Sources
		}
		Older(h.talk)
		first, second := Records(h.talk), Records(h.talk)
		for i := range h.talk.Records {
			for _, mode := range []int{-1, 0, 1, 2, 3, 4} {
				one, _ := Cut(h.talk.V6, mode, h.talk.Records[i])
				two, _ := Cut(h.talk.V6, mode, h.talk.Records[i])
				second = append(second, one, two)
			}
		}
		h.apart(t, first, second)
	}
}

// FuzzModel holds all calls against the model: each byte of in is a record, and those of sources are where their sources come from.
func FuzzModel(f *testing.F) {
	f.Add(false, 2, 2, 2, 0, 0, 0, "\x04", "\x01\x02")
	f.Add(true, 2, 2, 1, 5, 5, 6, "\x01\x02\x03\x04\x05\x06", "\x01\x02\x03\x80")
	f.Add(false, 3, 2, 1, 9, 10, 11, "\x03\x13\x06\x26", "")
	f.Add(true, 1, 3, math.MaxInt, math.MinInt, 0, math.MaxInt, "", "")
	f.Fuzz(func(t *testing.T, v6 bool, version, kind, mode, now, one, two int, in, from string) {
		talk := api.Talk{V6: v6, Version: version, Kind: kind, Group: group(len(in)%2 == 0)}
		for i := range len(in) {
			r := record(in[i]>>3%2 == 1, int(in[i]%8))
			for j := range min(len(from), int(in[i]>>4)) {
				r.Sources = append(r.Sources, source(from[j] >= 128, from[(i+j)%len(from)]))
			}
			talk.Records = append(talk.Records, r)
		}
		asModel(t, talk, mode, now, one, two)
	})
}
