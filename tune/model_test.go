package tune

import (
	"math"
	"math/big"
	"math/rand"
	"sort"
	"testing"

	"acequia/api"
	"acequia/igmp"
)

// encoded are the values of all codes, rising: plain ones, then eight runs of the same length, each with steps twice as great as the run ahead of it.
func encoded(plain, run int) []int {
	var out []int
	for n := range plain {
		out = append(out, n)
	}
	next, step := plain, 8
	for range 8 {
		for range run {
			out = append(out, next)
			next += step
		}
		step *= 2
	}
	return out
}

// model works the answers out in numbers of any size, and looks encoded values up.
type model struct {
	values8, values16 []int
}

func newModel() model {
	return model{encoded(128, 16), encoded(32768, 4096)}
}

// upTo is the greatest of the values that is not above n, or 0 if all are.
func upTo(values []int, n *big.Int) int {
	i := sort.Search(len(values), func(i int) bool { return big.NewInt(int64(values[i])).Cmp(n) > 0 })
	return values[max(i-1, 0)]
}

// between is n, no less than least and no more than most.
func between(n *big.Int, least, most int) int {
	low, high := big.NewInt(int64(least)), big.NewInt(int64(most))
	switch {
	case n.Cmp(high) > 0:
		return most
	case n.Cmp(low) < 0:
		return least
	}
	return int(n.Int64())
}

func product(a, b int) *big.Int {
	return new(big.Int).Mul(big.NewInt(int64(a)), big.NewInt(int64(b)))
}

// floor is n divided by k, rounded down; k is above 0.
func floor(n, k int) *big.Int {
	// Div rounds down where the divisor is above 0.
	return new(big.Int).Div(big.NewInt(int64(n)), big.NewInt(int64(k)))
}

func (model) good(x api.Tune) bool {
	for _, f := range fields() {
		if n := *f.of(&x); n < 1 || f.most < n {
			return false
		}
	}
	return !(x.Resp > x.Every)
}

func (model) member(x api.Tune) *big.Int {
	return new(big.Int).Add(product(x.Robust, x.Every), big.NewInt(int64(x.Resp)))
}

func (model) other(x api.Tune) *big.Int {
	return new(big.Int).Add(product(x.Robust, x.Every), floor(x.Resp, 2))
}

func (model) startup(x api.Tune) int {
	return max(int(floor(x.Every, 4).Int64()), 1)
}

func (model) resp(q api.Talk) int {
	switch {
	case !q.V6 && q.Version == 1:
		return 100
	case !q.V6:
		return q.Resp
	}
	// What is left of a whole is rounded down first, and is then one too few.
	whole := floor(q.Resp, 100)
	if product(int(whole.Int64()), 100).Cmp(big.NewInt(int64(q.Resp))) != 0 {
		whole.Add(whole, big.NewInt(1))
	}
	return int(whole.Int64())
}

func (model) adopt(x api.Tune, q api.Talk) api.Tune {
	if q.Kind == api.TQuery && (q.V6 && q.Version == 2 || !q.V6 && q.Version == 3) {
		if q.Robust >= 1 && q.Robust <= 7 {
			x.Robust = q.Robust
		}
		if q.Every > 0 {
			x.Every = between(product(q.Every, 10), x.Resp, 317440)
		}
	}
	return x
}

func (m model) query(x api.Tune, v6 bool, version int) api.Talk {
	q := api.Talk{V6: v6, Version: max(version, 1), Kind: 1}
	q.Group.V6 = v6
	whole := false
	switch resp := big.NewInt(int64(x.Resp)); {
	case v6 && version >= 2:
		q.Version, whole = 2, true
		q.Resp = upTo(m.values16, product(x.Resp, 100))
	case v6:
		q.Resp = between(product(x.Resp, 100), 0, 65535)
	case version >= 3:
		q.Version, whole = 3, true
		q.Resp = upTo(m.values8, resp)
	case version == 2:
		q.Resp = between(resp, 1, 255)
	}
	if whole {
		q.Every = upTo(m.values8, floor(x.Every, 10))
		if 0 <= x.Robust && x.Robust < 8 {
			q.Robust = x.Robust
		}
	}
	return q
}

// asModel tells what the calls about parameters alone answer otherwise than the model does.
func asModel(t *testing.T, m model, x api.Tune) {
	t.Helper()
	if got, want := Good(x), m.good(x); got != want {
		t.Errorf("Good(%+v) = %t", x, got)
	}
	asTimer(t, "Member", x, Member(x), m.member(x))
	asTimer(t, "Older", x, Older(x), m.member(x))
	asTimer(t, "Other", x, Other(x), m.other(x))
	asTimer(t, "Final", x, Final(x), product(x.Last, x.Count))
	if apart, count := Startup(x); apart != m.startup(x) || count != x.Robust {
		t.Errorf("Startup(%+v) = %d, %d", x, apart, count)
	}
}

// asTimer tells if a timer is not what it should be. What no int can hold is not asked for, but that the call ends.
func asTimer(t *testing.T, name string, x api.Tune, got int, want *big.Int) {
	t.Helper()
	if want.IsInt64() && int64(got) != want.Int64() {
		t.Errorf("%s(%+v) = %d, not %s", name, x, got, want)
	}
}

// asModelQuery tells if the query is another one than the model's, and, for good parameters, if it is not good or answered too late.
func asModelQuery(t *testing.T, m model, x api.Tune, v6 bool, version int) {
	t.Helper()
	got := Query(x, v6, version)
	if want := m.query(x, v6, version); !igmp.Same(got, want) {
		t.Errorf("Query(%+v, %t, %d) = %+v, not %+v", x, v6, version, got, want)
	}
	if !Good(x) {
		return
	}
	if !goodTalk(got) {
		t.Errorf("Query(%+v, %t, %d) = %+v is not good", x, v6, version, got)
	}
	if by := Resp(got); (v6 || got.Version > 1) && by > x.Resp {
		t.Errorf("Query(%+v, %t, %d) is to be answered by %d", x, v6, version, by)
	}
}

// asModelTalk tells what the calls about a message answer otherwise than the model does, and if good parameters become others.
func asModelTalk(t *testing.T, m model, x api.Tune, q api.Talk) {
	t.Helper()
	if got, want := Resp(q), m.resp(q); got != want {
		t.Errorf("Resp(%+v) = %d, not %d", q, got, want)
	}
	got := Adopt(x, q)
	if want := m.adopt(x, q); got != want && x.Resp <= api.MaxEvery {
		t.Errorf("Adopt(%+v, %+v) = %+v, not %+v", x, q, got, want)
	}
	if Good(x) && !Good(got) {
		t.Errorf("Adopt(%+v, %+v) = %+v is not good", x, q, got)
	}
}

// edges are numbers around the places where something turns.
func edges(m model) []int {
	out := []int{math.MinInt, math.MinInt + 1, math.MaxInt - 1, math.MaxInt}
	for _, n := range []int{0, 7, 100, 255, 655, 10000, 31744, 65535, 100000, 317440, math.MaxInt32, math.MaxInt / 100, math.MaxInt / 10, math.MaxInt / 4, 1 << 61, 1 << 62} {
		for i := range 5 {
			out = append(out, n+i-2, -n+i-2)
		}
	}
	// The runs of codes: as they are, a hundredth and ten times as great.
	for i := range 8 {
		for _, n := range []int{m.values8[128+16*i], m.values8[129+16*i], 10 * m.values8[128+16*i], 10 * m.values8[129+16*i], m.values16[32768+4096*i] / 100} {
			out = append(out, n-1, n, n+1)
		}
	}
	return out
}

// TestAround is for P14.1, P14.2 and P14.4: each field at all edges, all others being usual.
func TestAround(t *testing.T) {
	m := newModel()
	for _, n := range edges(m) {
		for _, f := range fields() {
			x := Usual()
			*f.of(&x) = n
			asModel(t, m, x)
			for version := -1; version <= 4; version++ {
				asModelQuery(t, m, x, false, version)
				asModelQuery(t, m, x, true, version)
			}
		}
		asModelQuery(t, m, Usual(), false, n)
		asModelQuery(t, m, Usual(), true, n)
	}
}

// TestAllResp is for P14.4: each Resp of good parameters, with the least Every that there may be beside it, and each tenth one of Every.
func TestAllResp(t *testing.T) {
	m := newModel()
	for n := 1; n <= api.MaxResp; n++ {
		x := tuned(1+n%7, n, n, 10, 2)
		tenth := tuned(1+n%7, 10*n-n%2, 1, 10, 2)
		for version := 1; version <= 3; version++ {
			for _, v6 := range []bool{false, true} {
				asModelQuery(t, m, x, v6, version)
				asModelQuery(t, m, tenth, v6, version)
			}
		}
		if t.Failed() {
			return
		}
	}
}

// drawer draws parameters and messages.
type drawer struct {
	*rand.Rand
	edges []int
}

// number is an int of any size, or one by an edge.
func (d drawer) number() int {
	if d.Intn(2) == 0 {
		return d.edges[d.Intn(len(d.edges))]
	}
	return int(d.Uint64()) >> d.Intn(64)
}

// upTo is a number from 1 to most, often by one of the ends, or little.
func (d drawer) upTo(most int) int {
	switch d.Intn(4) {
	case 0:
		return 1 + d.Intn(min(most, 3))
	case 1:
		return most - d.Intn(min(most, 3))
	case 2:
		return 1 + d.Intn(min(most, 300))
	}
	return 1 + d.Intn(most)
}

// good are good parameters.
func (d drawer) good() api.Tune {
	x := tuned(d.upTo(api.MaxRobust), d.upTo(api.MaxEvery), 0, d.upTo(api.MaxResp), d.upTo(api.MaxRobust))
	x.Resp = d.upTo(min(x.Every, api.MaxResp))
	return x
}

// some are parameters of which some or all fields may be anything.
func (d drawer) some() api.Tune {
	x := d.good()
	for _, f := range fields() {
		if d.Intn(3) == 0 {
			*f.of(&x) = d.number()
		}
	}
	return x
}

// talk is mostly a query, and mostly of the latest version.
func (d drawer) talk() api.Talk {
	q := api.Talk{V6: d.Intn(2) == 0, Version: 3, Kind: api.TQuery, Resp: d.number(), Robust: d.Intn(10) - 1, Every: d.number(), Quiet: d.Intn(2) == 0}
	if q.V6 {
		q.Version = 2
	}
	if d.Intn(3) == 0 {
		q.Version = d.Intn(6) - 1
	}
	if d.Intn(8) == 0 {
		q.Kind = d.Intn(5)
	}
	if d.Intn(3) == 0 {
		q.Every = 1 + d.Intn(40000)
	}
	if d.Intn(8) == 0 {
		q.Robust = d.number()
	}
	return q
}

// TestDrawn is for all promises: parameters and messages that are drawn, good ones and others.
func TestDrawn(t *testing.T) {
	m := newModel()
	d := drawer{rand.New(rand.NewSource(14)), edges(m)}
	for range 100000 {
		for _, x := range []api.Tune{d.good(), d.some()} {
			asModel(t, m, x)
			asModelTalk(t, m, x, d.talk())
			asModelQuery(t, m, x, d.Intn(2) == 0, d.Intn(6)-1)
		}
		if t.Failed() {
			return
		}
	}
}

// TestDrawnLine is for P14.5: good parameters stay good behind a whole row of messages, and so do the queries that they make when they are adopted in turn.
func TestDrawnLine(t *testing.T) {
	m := newModel()
	d := drawer{rand.New(rand.NewSource(15)), edges(m)}
	for range 3000 {
		x, y := d.good(), d.good()
		if !Good(x) || !Good(y) {
			t.Fatalf("%+v or %+v is not good", x, y)
		}
		for range 20 {
			asModelTalk(t, m, x, d.talk())
			q := Query(y, d.Intn(2) == 0, d.Intn(4))
			asModelTalk(t, m, x, q)
			x, y = y, Adopt(x, q)
		}
		if t.Failed() {
			return
		}
	}
}

// FuzzModel holds all calls against the model.
func FuzzModel(f *testing.F) {
	m := newModel()
	f.Add(2, 1250, 100, 10, 2, true, 2, 1, 10000, 2, 125)
	f.Add(7, 317440, 31744, 31744, 7, false, 3, 1, 31744, 7, 31745)
	f.Add(math.MinInt, math.MinInt, math.MinInt, math.MinInt, math.MinInt, true, math.MinInt, 1, math.MinInt, math.MinInt, math.MaxInt)
	f.Fuzz(func(t *testing.T, robust, every, resp, last, count int, v6 bool, version, kind, asked, strong, apart int) {
		x := tuned(robust, every, resp, last, count)
		asModel(t, m, x)
		asModelQuery(t, m, x, v6, version)
		asModelTalk(t, m, x, api.Talk{V6: v6, Version: version, Kind: kind, Resp: asked, Robust: strong, Every: apart})
	})
}
