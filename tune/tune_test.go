package tune

import (
	"math"
	"testing"

	"acequia/api"
	"acequia/igmp"
	"acequia/mld"
)

func TestExample(t *testing.T) {
	u := Usual()
	if got := Member(u); got != 2600 {
		t.Errorf("Member(Usual()) = %d, not 2600", got)
	}
	if got := Other(u); got != 2550 {
		t.Errorf("Other(Usual()) = %d, not 2550", got)
	}
	if apart, count := Startup(u); apart != 312 || count != 2 {
		t.Errorf("Startup(Usual()) = %d, %d, not 312, 2", apart, count)
	}
	if got := Final(u); got != 20 {
		t.Errorf("Final(Usual()) = %d, not 20", got)
	}
}

// TestUsual is for P14.1.
func TestUsual(t *testing.T) {
	want := api.Tune{Robust: 2, Every: 1250, Resp: 100, Last: 10, Count: 2}
	if got := Usual(); got != want {
		t.Errorf("Usual() = %+v", got)
	}
	if !Good(Usual()) {
		t.Error("Usual() is not good")
	}
}

// tuned is the five fields in the order in which package api has them.
func tuned(robust, every, resp, last, count int) api.Tune {
	return api.Tune{Robust: robust, Every: every, Resp: resp, Last: last, Count: count}
}

// field is one of the five fields, with the greatest value that it may have.
type field struct {
	name string
	most int
	of   func(*api.Tune) *int
}

func fields() []field {
	return []field{
		{"Robust", 7, func(x *api.Tune) *int { return &x.Robust }},
		{"Every", 317440, func(x *api.Tune) *int { return &x.Every }},
		{"Resp", 31744, func(x *api.Tune) *int { return &x.Resp }},
		{"Last", 31744, func(x *api.Tune) *int { return &x.Last }},
		{"Count", 7, func(x *api.Tune) *int { return &x.Count }},
	}
}

// TestGoodFields is for P14.1: each field at its ends and beyond, all others being good.
func TestGoodFields(t *testing.T) {
	for _, f := range fields() {
		for n, want := range map[int]bool{
			math.MinInt: false, math.MinInt + 1: false, math.MinInt32: false, -2: false, -1: false, 0: false,
			1: true, 2: true, f.most - 1: true, f.most: true,
			f.most + 1: false, f.most + 2: false, 2*f.most + 1: false, math.MaxInt32: false, math.MaxInt - 1: false, math.MaxInt: false,
		} {
			// Every is as great and Resp as little as they may be, so that none stands in the other's way.
			x := api.Tune{Robust: 2, Every: 317440, Resp: 1, Last: 10, Count: 2}
			*f.of(&x) = n
			if got := Good(x); got != want {
				t.Errorf("Good with %s %d is %t", f.name, n, got)
			}
		}
	}
}

// TestGood is for P14.1: fields that are held against one another, and those that are not.
func TestGood(t *testing.T) {
	for _, x := range []struct {
		tune api.Tune
		want bool
	}{
		{api.Tune{}, false},
		{tuned(1, 1, 1, 1, 1), true},
		{tuned(7, 317440, 31744, 31744, 7), true},
		{tuned(7, 31744, 31744, 31744, 7), true},
		{tuned(7, 31743, 31744, 31744, 7), false},
		{tuned(7, 317440, 31745, 31744, 7), false},
		{tuned(7, 317441, 31744, 31744, 7), false},
		{tuned(2, 100, 99, 10, 2), true},
		{tuned(2, 100, 100, 10, 2), true},
		{tuned(2, 100, 101, 10, 2), false},
		{tuned(2, 1, 1, 10, 2), true},
		{tuned(2, 1, 2, 10, 2), false},
		// Last may be above both, and Count differ from Robust.
		{tuned(1, 1, 1, 31744, 7), true},
		{tuned(7, 1, 1, 31744, 1), true},
		{tuned(2, -100, -200, 10, 2), false},
		{tuned(2, 0, 0, 10, 2), false},
		{tuned(2, math.MaxInt, 100, 10, 2), false},
		{tuned(2, math.MaxInt, math.MaxInt, 10, 2), false},
		{tuned(2, math.MinInt, math.MinInt, 10, 2), false},
	} {
		if got := Good(x.tune); got != x.want {
			t.Errorf("Good(%+v) = %t", x.tune, got)
		}
	}
}

// TestTimers is for P14.2: good parameters at their edges, and others.
func TestTimers(t *testing.T) {
	for _, x := range []struct {
		tune                                        api.Tune
		member, other, startApart, startCount, last int
	}{
		{tuned(2, 1250, 100, 10, 2), 2600, 2550, 312, 2, 20},
		{tuned(2, 1250, 101, 10, 2), 2601, 2550, 312, 2, 20},
		{tuned(2, 1250, 102, 11, 2), 2602, 2551, 312, 2, 22},
		{tuned(1, 1, 1, 1, 1), 2, 1, 1, 1, 1},
		{tuned(1, 2, 1, 2, 3), 3, 2, 1, 1, 6},
		{tuned(2, 2, 2, 3, 2), 6, 5, 1, 2, 6},
		{tuned(3, 3, 3, 4, 7), 12, 10, 1, 3, 28},
		{tuned(4, 4, 3, 5, 1), 19, 17, 1, 4, 5},
		{tuned(5, 5, 5, 6, 2), 30, 27, 1, 5, 12},
		{tuned(6, 6, 4, 7, 3), 40, 38, 1, 6, 21},
		{tuned(7, 7, 7, 8, 4), 56, 52, 1, 7, 32},
		{tuned(1, 8, 8, 9, 5), 16, 12, 2, 1, 45},
		{tuned(2, 12, 2, 1, 1), 26, 25, 3, 2, 1},
		{tuned(7, 317440, 31744, 31744, 7), 2253824, 2237952, 79360, 7, 222208},
		{tuned(7, 317439, 31743, 31743, 6), 2253816, 2237944, 79359, 7, 190458},
		{tuned(1, 317440, 1, 1, 7), 317441, 317440, 79360, 1, 7},
		// Parameters that are not good.
		{api.Tune{}, 0, 0, 1, 0, 0},
		{tuned(0, 1250, 100, 0, 2), 100, 50, 312, 0, 0},
		{tuned(2, 0, 100, 10, 0), 100, 50, 1, 2, 0},
		{tuned(2, 10, 1000, 10, 2), 1020, 520, 2, 2, 20},
		{tuned(8, 317441, 31745, 31745, 8), 2571273, 2555400, 79360, 8, 253960},
		{tuned(-1, 10, 3, -10, 2), -7, -9, 2, -1, -20},
		{tuned(2, -10, 3, 10, -2), -17, -19, 1, 2, -20},
		{tuned(-2, -10, 3, -10, -2), 23, 21, 1, -2, 20},
		// Half of a number below 0 is rounded down too.
		{tuned(1, 10, -1, 1, 1), 9, 9, 2, 1, 1},
		{tuned(1, 10, -2, 1, 1), 8, 9, 2, 1, 1},
		{tuned(1, 10, -3, 1, 1), 7, 8, 2, 1, 1},
		{tuned(0, 10, -4, 1, 1), -4, -2, 2, 0, 1},
		{tuned(1, math.MaxInt, 0, math.MaxInt, 1), math.MaxInt, math.MaxInt, math.MaxInt / 4, 1, math.MaxInt},
		{tuned(1, math.MinInt, 0, math.MinInt, 1), math.MinInt, math.MinInt, 1, 1, math.MinInt},
		{tuned(0, 5, math.MaxInt, math.MaxInt, 0), math.MaxInt, math.MaxInt / 2, 1, 0, 0},
		{tuned(0, 5, math.MinInt, math.MinInt, 0), math.MinInt, math.MinInt / 2, 1, 0, 0},
		{tuned(math.MinInt, 1, math.MaxInt, 1, math.MinInt), -1, -4611686018427387905, 1, math.MinInt, math.MinInt},
		{tuned(math.MaxInt, 1, math.MinInt, 1, math.MaxInt), -1, 4611686018427387903, 1, math.MaxInt, math.MaxInt},
	} {
		timer(t, "Member", x.tune, Member(x.tune), x.member)
		timer(t, "Other", x.tune, Other(x.tune), x.other)
		timer(t, "Older", x.tune, Older(x.tune), x.member)
		timer(t, "Final", x.tune, Final(x.tune), x.last)
		apart, count := Startup(x.tune)
		timer(t, "the interval of Startup", x.tune, apart, x.startApart)
		timer(t, "the number of Startup", x.tune, count, x.startCount)
	}
}

func timer(t *testing.T, name string, x api.Tune, got, want int) {
	t.Helper()
	if got != want {
		t.Errorf("%s of %+v is %d, not %d", name, x, got, want)
	}
}

// TestStartup is for P14.2: the first queries, where Every has no whole quarters or none at all.
func TestStartup(t *testing.T) {
	for _, x := range []struct{ every, want int }{
		{math.MinInt, 1}, {math.MinInt + 1, 1}, {-1250, 1}, {-8, 1}, {-5, 1}, {-4, 1}, {-3, 1}, {-1, 1},
		{0, 1}, {1, 1}, {2, 1}, {3, 1}, {4, 1}, {5, 1}, {6, 1}, {7, 1}, {8, 2}, {9, 2}, {11, 2}, {12, 3}, {13, 3}, {15, 3}, {16, 4},
		{1249, 312}, {1250, 312}, {1251, 312}, {1252, 313}, {317439, 79359}, {317440, 79360}, {math.MaxInt - 3, math.MaxInt / 4}, {math.MaxInt - 4, math.MaxInt/4 - 1},
	} {
		for _, robust := range []int{math.MinInt, -1, 0, 1, 2, 7, 8, math.MaxInt} {
			apart, count := Startup(api.Tune{Robust: robust, Every: x.every, Resp: 3, Last: 5, Count: 4})
			if apart != x.want || count != robust {
				t.Errorf("Startup with Robust %d, Every %d is %d, %d", robust, x.every, apart, count)
			}
		}
	}
}

// TestResp is for P14.3: how soon queries of all versions are to be answered.
func TestResp(t *testing.T) {
	for _, x := range []struct {
		resp int
		// With V6 it is this. Without it, it is resp itself, but for Version 1.
		six int
	}{
		{math.MinInt, math.MinInt / 100}, {math.MinInt + 1, math.MinInt / 100}, {-201, -2}, {-200, -2}, {-199, -1}, {-101, -1}, {-100, -1}, {-99, 0}, {-1, 0},
		{0, 0}, {1, 1}, {2, 1}, {50, 1}, {99, 1}, {100, 1}, {101, 2}, {199, 2}, {200, 2}, {201, 3}, {255, 3}, {256, 3}, {300, 3}, {301, 4},
		{9999, 100}, {10000, 100}, {10001, 101}, {31744, 318}, {65500, 655}, {65501, 656}, {65535, 656}, {65536, 656},
		{3174400, 31744}, {8387584, 83876},
		{math.MaxInt - 7, 92233720368547758}, {math.MaxInt - 6, 92233720368547759}, {math.MaxInt - 1, 92233720368547759}, {math.MaxInt, 92233720368547759},
	} {
		resp(t, api.Talk{Version: 1, Kind: api.TQuery, Resp: x.resp}, 100)
		for version := 2; version <= 3; version++ {
			resp(t, api.Talk{Version: version, Kind: api.TQuery, Resp: x.resp}, x.resp)
		}
		for version := 1; version <= 2; version++ {
			resp(t, api.Talk{V6: true, Version: version, Kind: api.TQuery, Resp: x.resp}, x.six)
		}
	}
}

func resp(t *testing.T, q api.Talk, want int) {
	t.Helper()
	if got := Resp(q); got != want {
		t.Errorf("Resp of V6 %t, Version %d, Resp %d is %d, not %d", q.V6, q.Version, q.Resp, got, want)
	}
}

// TestAdoptRobust is for P14.3: Robust of another querier's query.
func TestAdoptRobust(t *testing.T) {
	for robust, want := range map[int]int{
		math.MinInt: 5, -7: 5, -1: 5, 0: 5, 1: 1, 2: 2, 4: 4, 5: 5, 6: 6, 7: 7, 8: 5, 9: 5, 15: 5, math.MaxInt: 5,
	} {
		for _, q := range []api.Talk{{Version: 3}, {V6: true, Version: 2}} {
			q.Kind, q.Robust = api.TQuery, robust
			adopts(t, tuned(5, 1250, 100, 11, 3), q, tuned(want, 1250, 100, 11, 3))
		}
	}
}

// TestAdoptEvery is for P14.3: Every of another querier's query, and where it is clamped.
func TestAdoptEvery(t *testing.T) {
	for _, x := range []struct{ resp, every, want int }{
		{100, math.MinInt, 777}, {100, -1 << 62, 777}, {100, -125, 777}, {100, -1, 777}, {100, 0, 777},
		{1, 1, 10}, {9, 1, 10}, {10, 1, 10}, {11, 1, 11}, {11, 2, 20}, {100, 1, 100}, {100, 9, 100}, {99, 9, 99}, {99, 10, 100}, {89, 9, 90}, {90, 9, 90}, {91, 9, 91},
		{100, 10, 100}, {101, 10, 101}, {100, 11, 110}, {101, 11, 110}, {100, 125, 1250}, {100, 127, 1270}, {100, 128, 1280},
		{31744, 1, 31744}, {31744, 3174, 31744}, {31744, 3175, 31750}, {31740, 3174, 31740}, {31739, 3174, 31740}, {31741, 3174, 31741},
		{100, 31743, 317430}, {100, 31744, 317440}, {100, 31745, 317440}, {31744, 31743, 317430}, {31744, 31744, 317440}, {31744, 31745, 317440},
		{100, 99999, 317440}, {100, 100000, 317440}, {100, 100001, 317440}, {100, 317440, 317440}, {100, math.MaxInt32, 317440},
		// Ten times these is above the greatest int; of some of them what is left in 64 bits is little, or below 0.
		{100, math.MaxInt / 10, 317440}, {100, math.MaxInt/10 + 1, 317440}, {100, 1844674407370955162, 317440}, {100, 1844674407370955173, 317440},
		{100, 1 << 62, 317440}, {100, 1 << 61, 317440}, {100, math.MaxInt - 1, 317440}, {100, math.MaxInt, 317440},
		// Resp that is not good.
		{0, 1, 10}, {-5, 1, 10}, {math.MinInt, 1, 10}, {math.MinInt, 40000, 317440}, {200000, 1, 200000}, {200000, 20001, 200010}, {317440, 1, 317440},
	} {
		for _, q := range []api.Talk{{Version: 3}, {V6: true, Version: 2}} {
			q.Kind, q.Every = api.TQuery, x.every
			adopts(t, tuned(5, 777, x.resp, 11, 3), q, tuned(5, x.want, x.resp, 11, 3))
		}
	}
}

// TestAdoptKinds is for P14.3: which messages are adopted, and nothing else of them than Robust and Every.
func TestAdoptKinds(t *testing.T) {
	own := tuned(5, 777, 99, 11, 3)
	for _, v6 := range []bool{false, true} {
		for _, version := range []int{math.MinInt, -1, 0, 1, 2, 3, 4, 5, math.MaxInt} {
			for _, kind := range []int{-1, 0, api.TQuery, api.TReport, api.TLeave, 4, math.MaxInt} {
				q := api.Talk{V6: v6, Version: version, Kind: kind, Resp: 123, Group: api.Addr{V6: v6, B: [16]byte{0: 239, 3: 1}}, Quiet: true, Robust: 3, Every: 60,
					Sources: []api.Addr{{V6: v6, B: [16]byte{0: 10}}}}
				want := own
				if kind == api.TQuery && (!v6 && version == 3 || v6 && version == 2) {
					want.Robust, want.Every = 3, 600
				}
				adopts(t, own, q, want)
			}
		}
	}
	// Parameters that are not good stay as they are, but for what is adopted.
	ill := tuned(-9, -8, -7, -6, 99)
	adopts(t, ill, api.Talk{Version: 3, Kind: api.TQuery}, ill)
	adopts(t, ill, api.Talk{Version: 2, Kind: api.TQuery, Robust: 2, Every: 2}, ill)
	adopts(t, ill, api.Talk{Version: 3, Kind: api.TQuery, Robust: 2, Every: 2}, tuned(2, 20, -7, -6, 99))
}

func adopts(t *testing.T, x api.Tune, q api.Talk, want api.Tune) {
	t.Helper()
	if got := Adopt(x, q); got != want {
		t.Errorf("Adopt(%+v, V6 %t Version %d Kind %d Robust %d Every %d) = %+v, not %+v", x, q.V6, q.Version, q.Kind, q.Robust, q.Every, got, want)
	}
}

// TestQueryWritten is for P14.4: whole queries of each version.
func TestQueryWritten(t *testing.T) {
	six := api.Addr{V6: true}
	for _, x := range []struct {
		tune    api.Tune
		v6      bool
		version int
		want    api.Talk
	}{
		{Usual(), false, 1, api.Talk{Version: 1, Kind: api.TQuery}},
		{Usual(), false, 2, api.Talk{Version: 2, Kind: api.TQuery, Resp: 100}},
		{Usual(), false, 3, api.Talk{Version: 3, Kind: api.TQuery, Resp: 100, Robust: 2, Every: 125}},
		{Usual(), true, 1, api.Talk{V6: true, Version: 1, Kind: api.TQuery, Group: six, Resp: 10000}},
		{Usual(), true, 2, api.Talk{V6: true, Version: 2, Kind: api.TQuery, Group: six, Resp: 10000, Robust: 2, Every: 125}},
		{tuned(7, 317440, 31744, 5, 6), false, 1, api.Talk{Version: 1, Kind: api.TQuery}},
		{tuned(7, 317440, 31744, 5, 6), false, 2, api.Talk{Version: 2, Kind: api.TQuery, Resp: 255}},
		{tuned(7, 317440, 31744, 5, 6), false, 3, api.Talk{Version: 3, Kind: api.TQuery, Resp: 31744, Robust: 7, Every: 31744}},
		{tuned(7, 317440, 31744, 5, 6), true, 1, api.Talk{V6: true, Version: 1, Kind: api.TQuery, Group: six, Resp: 65535}},
		{tuned(7, 317440, 31744, 5, 6), true, 2, api.Talk{V6: true, Version: 2, Kind: api.TQuery, Group: six, Resp: 3174400, Robust: 7, Every: 31744}},
		{tuned(1, 1, 1, 1, 1), false, 2, api.Talk{Version: 2, Kind: api.TQuery, Resp: 1}},
		{tuned(1, 1, 1, 1, 1), false, 3, api.Talk{Version: 3, Kind: api.TQuery, Resp: 1, Robust: 1}},
		{tuned(1, 1, 1, 1, 1), true, 1, api.Talk{V6: true, Version: 1, Kind: api.TQuery, Group: six, Resp: 100}},
		{tuned(1, 1, 1, 1, 1), true, 2, api.Talk{V6: true, Version: 2, Kind: api.TQuery, Group: six, Resp: 100, Robust: 1}},
		{api.Tune{}, false, 1, api.Talk{Version: 1, Kind: api.TQuery}},
		{api.Tune{}, false, 2, api.Talk{Version: 2, Kind: api.TQuery, Resp: 1}},
		{api.Tune{}, false, 3, api.Talk{Version: 3, Kind: api.TQuery}},
		{api.Tune{}, true, 1, api.Talk{V6: true, Version: 1, Kind: api.TQuery, Group: six}},
		{api.Tune{}, true, 2, api.Talk{V6: true, Version: 2, Kind: api.TQuery, Group: six}},
	} {
		if got := Query(x.tune, x.v6, x.version); !igmp.Same(got, x.want) {
			t.Errorf("Query(%+v, %t, %d) = %+v", x.tune, x.v6, x.version, got)
		}
	}
}

// TestQueryVersions is for P14.4: versions beyond the least and the greatest one.
func TestQueryVersions(t *testing.T) {
	for _, x := range []struct{ version, four, six int }{
		{math.MinInt, 1, 1}, {-3, 1, 1}, {-1, 1, 1}, {0, 1, 1}, {1, 1, 1}, {2, 2, 2}, {3, 3, 2}, {4, 3, 2}, {5, 3, 2}, {256, 3, 2}, {math.MaxInt, 3, 2},
	} {
		for v6, want := range map[bool]int{false: x.four, true: x.six} {
			got := Query(Usual(), v6, x.version)
			if got.V6 != v6 || got.Version != want || !igmp.Same(got, Query(Usual(), v6, want)) {
				t.Errorf("Query(Usual(), %t, %d) = %+v", v6, x.version, got)
			}
		}
	}
}

// TestQueryResp is for P14.4: Resp where the codes begin to skip, and where it is clamped. Robust and Every don't hang on it.
func TestQueryResp(t *testing.T) {
	for _, x := range []struct{ resp, two, three, six1, six2 int }{
		{math.MinInt, 1, 0, 0, 0}, {math.MinInt + 1, 1, 0, 0, 0}, {-92233720368547759, 1, 0, 0, 0}, {-128, 1, 0, 0, 0}, {-1, 1, 0, 0, 0},
		{0, 1, 0, 0, 0}, {1, 1, 1, 100, 100}, {2, 2, 2, 200, 200},
		{127, 127, 127, 12700, 12700}, {128, 128, 128, 12800, 12800}, {129, 129, 128, 12900, 12900}, {135, 135, 128, 13500, 13500}, {136, 136, 136, 13600, 13600},
		{254, 254, 248, 25400, 25400}, {255, 255, 248, 25500, 25500}, {256, 255, 256, 25600, 25600}, {257, 255, 256, 25700, 25700}, {271, 255, 256, 27100, 27100}, {272, 255, 272, 27200, 27200},
		{327, 255, 320, 32700, 32700}, {328, 255, 320, 32800, 32800}, {329, 255, 320, 32900, 32896},
		{511, 255, 496, 51100, 51096}, {512, 255, 512, 51200, 51200}, {513, 255, 512, 51300, 51296}, {544, 255, 544, 54400, 54400},
		{655, 255, 640, 65500, 65496}, {656, 255, 640, 65535, 65600}, {657, 255, 640, 65535, 65696},
		{1023, 255, 992, 65535, 102288}, {1024, 255, 1024, 65535, 102400}, {1025, 255, 1024, 65535, 102496}, {1087, 255, 1024, 65535, 108688}, {1088, 255, 1088, 65535, 108800},
		{1310, 255, 1280, 65535, 130992}, {1311, 255, 1280, 65535, 131072},
		{2047, 255, 1984, 65535, 204672}, {2048, 255, 2048, 65535, 204800}, {2621, 255, 2560, 65535, 262080}, {2622, 255, 2560, 65535, 262144},
		{4095, 255, 3968, 65535, 409472}, {4096, 255, 4096, 65535, 409600}, {5242, 255, 5120, 65535, 524160}, {5243, 255, 5120, 65535, 524288},
		{8191, 255, 7936, 65535, 819072}, {8192, 255, 8192, 65535, 819200}, {10485, 255, 10240, 65535, 1048448}, {10486, 255, 10240, 65535, 1048576},
		{16383, 255, 15872, 65535, 1638144}, {16384, 255, 16384, 65535, 1638400}, {20971, 255, 20480, 65535, 2096896}, {20972, 255, 20480, 65535, 2097152},
		{31743, 255, 30720, 65535, 3174400 - 512}, {31744, 255, 31744, 65535, 3174400}, {31745, 255, 31744, 65535, 3174400},
		{41943, 255, 31744, 65535, 4193792}, {41944, 255, 31744, 65535, 4194304}, {83875, 255, 31744, 65535, 8386560}, {83876, 255, 31744, 65535, 8387584},
		{99999, 255, 31744, 65535, 8387584}, {100000, 255, 31744, 65535, 8387584}, {100001, 255, 31744, 65535, 8387584}, {math.MaxInt32, 255, 31744, 65535, 8387584},
		// A hundred times these is above the greatest int; of some of them what is left in 64 bits is little, or below 0.
		{math.MaxInt / 100, 255, 31744, 65535, 8387584}, {math.MaxInt/100 + 1, 255, 31744, 65535, 8387584}, {184467440737095517, 255, 31744, 65535, 8387584},
		{1 << 62, 255, 31744, 65535, 8387584}, {math.MaxInt - 1, 255, 31744, 65535, 8387584}, {math.MaxInt, 255, 31744, 65535, 8387584},
	} {
		u := Usual()
		u.Resp = x.resp
		queried(t, u, false, 1, 0, 0, 0)
		queried(t, u, false, 2, x.two, 0, 0)
		queried(t, u, false, 3, x.three, 2, 125)
		queried(t, u, true, 1, x.six1, 0, 0)
		queried(t, u, true, 2, x.six2, 2, 125)
	}
}

// TestQueryEvery is for P14.4: Every where nothing is left of a tenth of it, and where the code begins to skip. Resp doesn't hang on it.
func TestQueryEvery(t *testing.T) {
	for _, x := range []struct{ every, want int }{
		{math.MinInt, 0}, {-1250, 0}, {-20, 0}, {-10, 0}, {-9, 0}, {-1, 0}, {0, 0}, {1, 0}, {9, 0}, {10, 1}, {11, 1}, {19, 1}, {20, 2}, {1249, 124}, {1250, 125}, {1259, 125},
		{1270, 127}, {1279, 127}, {1280, 128}, {1281, 128}, {1290, 128}, {1359, 128}, {1360, 136}, {1361, 136},
		{2479, 240}, {2480, 248}, {2559, 248}, {2560, 256}, {2570, 256}, {2719, 256}, {2720, 272}, {5119, 496}, {5120, 512}, {5439, 512}, {5440, 544},
		{10239, 992}, {10240, 1024}, {10879, 1024}, {10880, 1088}, {20479, 1984}, {20480, 2048}, {40959, 3968}, {40960, 4096}, {81919, 7936}, {81920, 8192},
		{163839, 15872}, {163840, 16384}, {174079, 16384}, {174080, 17408}, {317439, 30720}, {317440, 31744},
		{317441, 31744}, {327680, 31744}, {1 << 40, 31744}, {math.MaxInt - 1, 31744}, {math.MaxInt, 31744},
	} {
		u := Usual()
		u.Every = x.every
		queried(t, u, false, 1, 0, 0, 0)
		queried(t, u, false, 2, 100, 0, 0)
		queried(t, u, false, 3, 100, 2, x.want)
		queried(t, u, true, 1, 10000, 0, 0)
		queried(t, u, true, 2, 10000, 2, x.want)
	}
}

// TestQueryRobust is for P14.4: Robust that a query can tell, and others. Last and Count are never told.
func TestQueryRobust(t *testing.T) {
	for robust, want := range map[int]int{
		math.MinInt: 0, -8: 0, -7: 0, -1: 0, 0: 0, 1: 1, 2: 2, 3: 3, 4: 4, 5: 5, 6: 6, 7: 7, 8: 0, 9: 0, 15: 0, 16: 0, math.MaxInt: 0,
	} {
		for _, rest := range []int{math.MinInt, -1, 0, 1, 7, 8, math.MaxInt} {
			u := tuned(robust, 1250, 100, rest, rest)
			queried(t, u, false, 1, 0, 0, 0)
			queried(t, u, false, 2, 100, 0, 0)
			queried(t, u, false, 3, 100, want, 125)
			queried(t, u, true, 1, 10000, 0, 0)
			queried(t, u, true, 2, 10000, want, 125)
		}
	}
}

// queried tells if the query has anything else than these fields.
func queried(t *testing.T, x api.Tune, v6 bool, version, resp, robust, every int) {
	t.Helper()
	want := api.Talk{V6: v6, Version: version, Kind: api.TQuery, Resp: resp, Group: api.Addr{V6: v6}, Robust: robust, Every: every}
	got := Query(x, v6, version)
	if !igmp.Same(got, want) {
		t.Errorf("Query(%+v, %t, %d) = %+v, not %+v", x, v6, version, got, want)
	}
	if Good(x) && !goodTalk(got) {
		t.Errorf("Query(%+v, %t, %d) = %+v is not good", x, v6, version, got)
	}
}

func goodTalk(q api.Talk) bool {
	if q.V6 {
		return mld.Good(q)
	}
	return igmp.Good(q)
}
