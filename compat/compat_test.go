package compat

import (
	"math"
	"slices"
	"strconv"
	"testing"

	"acequia/addr"
	"acequia/api"
)

// list are addresses.
type list = []api.Addr

// The groups and sources of the tests, by their family.
func group(v6 bool) api.Addr {
	if v6 {
		return api.Addr{V6: true, B: [16]byte{0: 0xff, 1: 0x05, 15: 7}}
	}
	return addr.Ip4(239, 1, 1, 7)
}

func source(v6 bool, n byte) api.Addr {
	if v6 {
		return api.Addr{V6: true, B: [16]byte{0: 0xfd, 15: n}}
	}
	return addr.Ip4(10, 0, 0, n)
}

func sources(v6 bool, all ...byte) list {
	var out list
	for _, n := range all {
		out = append(out, source(v6, n))
	}
	return out
}

// record is one about the group of that family.
func record(v6 bool, kind int, all ...byte) api.Record {
	return api.Record{Kind: kind, Group: group(v6), Sources: sources(v6, all...)}
}

// sameRecord is whether both are equal in all parts, their sources in their order.
func sameRecord(a, b api.Record) bool {
	return a.Kind == b.Kind && a.Group == b.Group && slices.Equal(a.Sources, b.Sources)
}

func sameRecords(a, b []api.Record) bool {
	return slices.EqualFunc(a, b, sameRecord)
}

// family is a name for v6 that a test can tell.
func family(v6 bool) string {
	if v6 {
		return "V6"
	}
	return "V4"
}

// families are both values of v6.
func families() []bool {
	return []bool{false, true}
}

// TestLast is for P16.1: both values.
func TestLast(t *testing.T) {
	if got := Last(false); got != 3 {
		t.Errorf("Last(false) = %d, not 3", got)
	}
	if got := Last(true); got != 2 {
		t.Errorf("Last(true) = %d, not 2", got)
	}
}

// saying is what Records and Older should answer to a message of a version and a kind: no records ("none"), its own ("own"), a single IsEx ("all"), or a single ToIn ("leave").
type saying struct {
	v6            bool
	version, kind int
	says          string
	older         int
}

// sayings is every kind that there is, and some that there are not, in versions from below 0 to above the greatest.
func sayings() []saying {
	return []saying{
		{false, math.MinInt, api.TReport, "all", math.MinInt},
		{false, -1, api.TReport, "all", -1},
		{false, 0, api.TReport, "all", 0},
		{false, 1, api.TReport, "all", 1},
		{false, 2, api.TReport, "all", 2},
		{false, 3, api.TReport, "own", 0},
		{false, 4, api.TReport, "all", 0},
		{false, math.MaxInt, api.TReport, "all", 0},
		{true, math.MinInt, api.TReport, "all", math.MinInt},
		{true, -1, api.TReport, "all", -1},
		{true, 0, api.TReport, "all", 0},
		{true, 1, api.TReport, "all", 1},
		{true, 2, api.TReport, "own", 0},
		{true, 3, api.TReport, "all", 0},
		{true, 4, api.TReport, "all", 0},
		{true, math.MaxInt, api.TReport, "all", 0},
		{false, -1, api.TLeave, "leave", 0},
		{false, 0, api.TLeave, "leave", 0},
		{false, 1, api.TLeave, "leave", 0},
		{false, 2, api.TLeave, "leave", 0},
		{false, 3, api.TLeave, "leave", 0},
		{false, 4, api.TLeave, "leave", 0},
		{true, -1, api.TLeave, "leave", 0},
		{true, 0, api.TLeave, "leave", 0},
		{true, 1, api.TLeave, "leave", 0},
		{true, 2, api.TLeave, "leave", 0},
		{true, 3, api.TLeave, "leave", 0},
		{false, -1, api.TQuery, "none", 0},
		{false, 0, api.TQuery, "none", 0},
		{false, 1, api.TQuery, "none", 0},
		{false, 2, api.TQuery, "none", 0},
		{false, 3, api.TQuery, "none", 0},
		{false, 4, api.TQuery, "none", 0},
		{true, 0, api.TQuery, "none", 0},
		{true, 1, api.TQuery, "none", 0},
		{true, 2, api.TQuery, "none", 0},
		{true, 3, api.TQuery, "none", 0},
		{false, 0, 0, "none", 0},
		{false, 1, 0, "none", 0},
		{false, 3, 0, "none", 0},
		{true, 1, 0, "none", 0},
		{true, 2, 0, "none", 0},
		{false, 1, -1, "none", 0},
		{false, 3, -1, "none", 0},
		{true, 2, -1, "none", 0},
		{false, 1, 4, "none", 0},
		{false, 3, 4, "none", 0},
		{true, 1, 4, "none", 0},
		{true, 2, 4, "none", 0},
		{false, 2, math.MinInt, "none", 0},
		{false, 3, math.MaxInt, "none", 0},
		{true, 2, math.MaxInt, "none", 0},
	}
}

// filled are the messages of a row with a Group, Sources and Records that are nil, empty and filled, needed or not.
func (x saying) filled() []api.Talk {
	var out []api.Talk
	own := []api.Record{record(x.v6, api.ToEx, 3, 1, 3), record(x.v6, api.Block), record(!x.v6, 0, 1), record(x.v6, 7, 2)}
	for _, g := range []api.Addr{{}, {V6: true}, group(false), group(true), source(x.v6, 9)} {
		for _, l := range []list{nil, {}, sources(x.v6, 4, 5)} {
			for _, r := range [][]api.Record{nil, {}, own[:1], own, {{}}} {
				out = append(out, api.Talk{V6: x.v6, Version: x.version, Kind: x.kind, Resp: 100, Group: g, Quiet: true, Robust: 2, Every: 125, Sources: l, Records: r})
				out = append(out, api.Talk{V6: x.v6, Version: x.version, Kind: x.kind, Group: g, Sources: l, Records: r})
			}
		}
	}
	return out
}

// wanted are the records of a message of this row.
func (x saying) wanted(t api.Talk) []api.Record {
	switch x.says {
	case "own":
		return t.Records
	case "all":
		return []api.Record{{Kind: 2, Group: t.Group}}
	case "leave":
		return []api.Record{{Kind: 3, Group: t.Group}}
	}
	return nil
}

// TestRecords is for P16.1: what each message says as records, all fields of them, whatever else it holds.
func TestRecords(t *testing.T) {
	for _, x := range sayings() {
		for _, talk := range x.filled() {
			if got, want := Records(talk), x.wanted(talk); !sameRecords(got, want) {
				t.Errorf("Records(%+v) = %+v, not %+v", talk, got, want)
			}
		}
	}
}

// TestOlder is for P16.1: the version of a report that is older than the latest.
func TestOlder(t *testing.T) {
	for _, x := range sayings() {
		for _, talk := range x.filled() {
			if got := Older(talk); got != x.older {
				t.Errorf("Older(%+v) = %d, not %d", talk, got, x.older)
			}
		}
	}
}

// TestRecordsKinds is for P16.1: the records of a report of the latest version come as they are, each kind of them, in their order.
func TestRecordsKinds(t *testing.T) {
	for _, v6 := range families() {
		var all []api.Record
		for _, kind := range []int{6, 1, 5, 2, 4, 3, 3, 0, -1, 7} {
			all = append(all, record(v6, kind, 2, 1), record(v6, kind))
		}
		if got := Records(api.Talk{V6: v6, Version: Last(v6), Kind: api.TReport, Records: all}); !sameRecords(got, all) {
			t.Errorf("%s: %+v", family(v6), got)
		}
	}
}

// TestMode is for P16.2: the times of each older version below, equal to and above now.
func TestMode(t *testing.T) {
	for _, x := range []struct{ now, one, two, want4, want6 int }{
		{100, 99, 99, 3, 2},
		{100, 99, 100, 3, 2},
		{100, 99, 101, 2, 2},
		{100, 100, 99, 3, 2},
		{100, 100, 100, 3, 2},
		{100, 100, 101, 2, 2},
		{100, 101, 99, 1, 1},
		{100, 101, 100, 1, 1},
		{100, 101, 101, 1, 1},
		{100, 101, 102, 1, 1},
		{100, 102, 101, 1, 1},
		{100, 0, 0, 3, 2},
		{100, 0, 2600, 2, 2},
		{100, 2600, 0, 1, 1},
		{0, 0, 0, 3, 2},
		{0, 0, 1, 2, 2},
		{0, 1, 0, 1, 1},
		{0, 1, 1, 1, 1},
		{0, -1, -1, 3, 2},
		{0, -1, 1, 2, 2},
		{-2, -2, -2, 3, 2},
		{-2, -3, -1, 2, 2},
		{-2, -1, -3, 1, 1},
		{-2, 0, 0, 1, 1},
		{math.MinInt, math.MinInt, math.MinInt, 3, 2},
		{math.MinInt, math.MinInt, math.MinInt + 1, 2, 2},
		{math.MinInt, math.MinInt + 1, math.MinInt, 1, 1},
		{math.MinInt, math.MinInt, math.MaxInt, 2, 2},
		{math.MinInt, math.MaxInt, math.MinInt, 1, 1},
		{math.MinInt, math.MaxInt, math.MaxInt, 1, 1},
		{math.MinInt, math.MinInt, 0, 2, 2},
		{math.MinInt, 0, math.MinInt, 1, 1},
		{math.MaxInt, math.MaxInt, math.MaxInt, 3, 2},
		{math.MaxInt, math.MinInt, math.MinInt, 3, 2},
		{math.MaxInt, math.MaxInt - 1, math.MaxInt, 3, 2},
		{math.MaxInt - 1, math.MaxInt - 1, math.MaxInt, 2, 2},
		{math.MaxInt - 1, math.MaxInt, math.MinInt, 1, 1},
		{0, math.MinInt, math.MaxInt, 2, 2},
		{0, math.MaxInt, math.MinInt, 1, 1},
		{0, math.MinInt, math.MinInt, 3, 2},
		{1, math.MinInt, math.MinInt, 3, 2},
		{-1, math.MaxInt, math.MaxInt, 1, 1},
	} {
		if got := Mode(false, x.now, x.one, x.two); got != x.want4 {
			t.Errorf("Mode(false, %d, %d, %d) = %d, not %d", x.now, x.one, x.two, got, x.want4)
		}
		if got := Mode(true, x.now, x.one, x.two); got != x.want6 {
			t.Errorf("Mode(true, %d, %d, %d) = %d, not %d", x.now, x.one, x.two, got, x.want6)
		}
	}
}

// cutting is what Cut should answer in a mode to records of the kinds from -1 to 8, a letter each: as they are (r), without their sources (c), or nothing (-).
type cutting struct {
	v6    bool
	mode  int
	kinds string
}

func cuttings() []cutting {
	return []cutting{
		{false, math.MinInt, "rrrrrcr-rr"},
		{false, -1, "rrrrrcr-rr"},
		{false, 0, "rrrrrcr-rr"},
		{false, 1, "rrrr-cr-rr"},
		{false, 2, "rrrrrcr-rr"},
		{false, 3, "rrrrrrrrrr"},
		{false, 4, "rrrrrrrrrr"},
		{false, math.MaxInt, "rrrrrrrrrr"},
		{true, math.MinInt, "rrrrrcr-rr"},
		{true, -1, "rrrrrcr-rr"},
		{true, 0, "rrrrrcr-rr"},
		{true, 1, "rrrrrcr-rr"},
		{true, 2, "rrrrrrrrrr"},
		{true, 3, "rrrrrrrrrr"},
		{true, 4, "rrrrrrrrrr"},
		{true, math.MaxInt, "rrrrrrrrrr"},
	}
}

// cutTo is what a letter of cuttings says of r.
func cutTo(letter byte, r api.Record) (api.Record, bool) {
	switch letter {
	case 'r':
		return r, true
	case 'c':
		return api.Record{Kind: r.Kind, Group: r.Group}, true
	}
	return api.Record{}, false
}

// cutAs tells if Cut answers otherwise than the letter says.
func cutAs(t *testing.T, x cutting, letter byte, r api.Record) {
	t.Helper()
	want, wantOk := cutTo(letter, r)
	if got, ok := Cut(x.v6, x.mode, r); ok != wantOk || !sameRecord(got, want) {
		t.Errorf("Cut(%s, %d, %+v) = %+v, %t, not %+v, %t", family(x.v6), x.mode, r, got, ok, want, wantOk)
	}
}

// TestCut is for P16.3: each kind of record, in each mode, with Sources that are nil, empty and filled, in whatever order they are.
func TestCut(t *testing.T) {
	for _, x := range cuttings() {
		for i := range len(x.kinds) {
			for _, l := range []list{nil, {}, sources(x.v6, 1), sources(x.v6, 1, 2), sources(x.v6, 2, 1, 2), sources(!x.v6, 3)} {
				for _, g := range []api.Addr{group(false), group(true), {}, source(x.v6, 1)} {
					cutAs(t, x, x.kinds[i], api.Record{Kind: i - 1, Group: g, Sources: l})
				}
			}
		}
		for _, kind := range []int{math.MinInt, -2, 9, 255, 256 + api.Block, math.MaxInt} {
			cutAs(t, x, 'r', record(x.v6, kind, 1, 2))
		}
	}
}

// TestCutWritten is for P16.3: some answers in full.
func TestCutWritten(t *testing.T) {
	one, two := addr.Ip4(10, 0, 0, 1), addr.Ip4(10, 0, 0, 2)
	g := addr.Ip4(239, 1, 1, 7)
	for i, x := range []struct {
		v6   bool
		mode int
		r    api.Record
		want api.Record
		ok   bool
	}{
		{false, 3, api.Record{Kind: api.Block, Group: g, Sources: list{one}}, api.Record{Kind: 6, Group: g, Sources: list{one}}, true},
		{false, 3, api.Record{Kind: api.ToEx, Group: g, Sources: list{one, two}}, api.Record{Kind: 4, Group: g, Sources: list{one, two}}, true},
		{false, 3, api.Record{Kind: api.ToIn, Group: g}, api.Record{Kind: 3, Group: g}, true},
		{false, 2, api.Record{Kind: api.Block, Group: g, Sources: list{one}}, api.Record{}, false},
		{false, 2, api.Record{Kind: api.ToEx, Group: g, Sources: list{one, two}}, api.Record{Kind: 4, Group: g}, true},
		{false, 2, api.Record{Kind: api.ToIn, Group: g, Sources: list{two}}, api.Record{Kind: 3, Group: g, Sources: list{two}}, true},
		{false, 2, api.Record{Kind: api.IsEx, Group: g, Sources: list{two}}, api.Record{Kind: 2, Group: g, Sources: list{two}}, true},
		{false, 1, api.Record{Kind: api.Block, Group: g, Sources: list{one}}, api.Record{}, false},
		{false, 1, api.Record{Kind: api.ToIn, Group: g, Sources: list{two}}, api.Record{}, false},
		{false, 1, api.Record{Kind: api.ToIn, Group: g}, api.Record{}, false},
		{false, 1, api.Record{Kind: api.ToEx, Group: g, Sources: list{one, two}}, api.Record{Kind: 4, Group: g}, true},
		{false, 1, api.Record{Kind: api.Allow, Group: g, Sources: list{one}}, api.Record{Kind: 5, Group: g, Sources: list{one}}, true},
		{false, 1, api.Record{Kind: api.IsIn, Group: g, Sources: list{one}}, api.Record{Kind: 1, Group: g, Sources: list{one}}, true},
		{true, 1, api.Record{Kind: api.ToIn, Group: g, Sources: list{two}}, api.Record{Kind: 3, Group: g, Sources: list{two}}, true},
		{true, 1, api.Record{Kind: api.Block, Group: g, Sources: list{two}}, api.Record{}, false},
		{true, 1, api.Record{Kind: api.ToEx, Group: g, Sources: list{two}}, api.Record{Kind: 4, Group: g}, true},
		{true, 2, api.Record{Kind: api.ToEx, Group: g, Sources: list{two}}, api.Record{Kind: 4, Group: g, Sources: list{two}}, true},
		{true, 2, api.Record{Kind: api.Block, Group: g, Sources: list{two}}, api.Record{Kind: 6, Group: g, Sources: list{two}}, true},
	} {
		if got, ok := Cut(x.v6, x.mode, x.r); ok != x.ok || !sameRecord(got, x.want) {
			t.Errorf("row %s: Cut(%s, %d, %+v) = %+v, %t", strconv.Itoa(i), family(x.v6), x.mode, x.r, got, ok)
		}
	}
}

// TestExample is the example of the chapter.
func TestExample(t *testing.T) {
	g := addr.Ip4(239, 1, 1, 1)
	report := api.Talk{Version: 2, Kind: api.TReport, Group: g}
	if got := Records(report); len(got) != 1 || got[0].Kind != api.IsEx || got[0].Group != g || len(got[0].Sources) != 0 {
		t.Errorf("Records: %+v", got)
	}
	if got := Older(report); got != 2 {
		t.Errorf("Older: %d", got)
	}
	got, ok := Cut(false, 2, api.Record{Kind: api.ToEx, Group: g, Sources: list{addr.Ip4(10, 0, 0, 1), addr.Ip4(10, 0, 0, 2)}})
	if !ok || got.Kind != api.ToEx || got.Group != g || len(got.Sources) != 0 {
		t.Errorf("Cut: %+v, %t", got, ok)
	}
}
