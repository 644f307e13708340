package serial

import (
	"math"
	"math/rand"
	"slices"
	"testing"
)

// round is how many numbers there are: the model counts with these in 64 bits, where nothing goes round by itself.
const round int64 = 1 << 32

// modelAdd takes the rounds out of k first, so that no sum is too great.
func modelAdd(n uint32, k int) uint32 {
	sum := int64(n) + int64(k)%round
	switch {
	case sum < 0:
		sum += round
	case sum >= round:
		sum -= round
	}
	return uint32(sum)
}

// modelGap is the one of the ways from a to b that lies from -2^31 to 2^31 - 1.
func modelGap(a, b uint32) int {
	gap := int64(b) - int64(a)
	for _, way := range []int64{gap - round, gap, gap + round} {
		if -half <= way && way <= half-1 {
			return int(way)
		}
	}
	panic("no way round")
}

func modelLess(a, b uint32) bool {
	return modelGap(a, b) > 0
}

// modelWithin looks for n, and for n one round later, between the first number and the one behind the last.
func modelWithin(n, from uint32, wide int) bool {
	first := int64(from)
	behind := first + int64(min(max(wide, 0), half-1))
	for _, at := range []int64{int64(n), int64(n) + round} {
		if first <= at && at < behind {
			return true
		}
	}
	return false
}

func modelLatest(l []uint32) (uint32, bool) {
	var candidate uint32
	for i, n := range l {
		if i == 0 || modelLess(candidate, n) {
			candidate = n
		}
	}
	return candidate, len(l) > 0
}

// asModel tells what the calls answer otherwise than the model does.
func asModel(t *testing.T, a, b uint32, k int) {
	t.Helper()
	if got, want := Add(a, k), modelAdd(a, k); got != want {
		t.Errorf("Add(%d, %d) = %d, not %d", a, k, got, want)
	}
	if got, want := Gap(a, b), modelGap(a, b); got != want {
		t.Errorf("Gap(%d, %d) = %d, not %d", a, b, got, want)
	}
	if got, want := Less(a, b), modelLess(a, b); got != want {
		t.Errorf("Less(%d, %d) = %v", a, b, got)
	}
	if got, want := Within(a, b, k), modelWithin(a, b, k); got != want {
		t.Errorf("Within(%d, %d, %d) = %v", a, b, k, got)
	}
}

// asModelLatest tells if Latest answers otherwise than the model does.
func asModelLatest(t *testing.T, l []uint32) {
	t.Helper()
	got, ok := Latest(l...)
	if want, is := modelLatest(l); got != want || ok != is {
		t.Errorf("Latest(%v) = %d, %v, not %d, %v", shown(l), got, ok, want, is)
	}
}

// edges are numbers around the places where something turns.
func edges() []uint32 {
	var out []uint32
	for _, n := range []uint32{0, 1 << 8, 1 << 16, 1 << 30, half, 3 << 30} {
		for i := range uint32(7) {
			out = append(out, n+i-3)
		}
	}
	return out
}

// steps are ints around the places where something turns, and the least and the greatest one.
func steps() []int {
	out := []int{math.MinInt, math.MinInt + 1, math.MaxInt - 1, math.MaxInt}
	for _, k := range []int{0, 1 << 16, half, 1 << 32, 1<<32 + half, 2 << 32, 1 << 62} {
		for i := range 7 {
			out = append(out, k+i-3, -k+i-3)
		}
	}
	return out
}

// TestEdges is for P13.1 and P13.2: all edges with one another.
func TestEdges(t *testing.T) {
	for _, a := range edges() {
		for _, b := range edges() {
			for _, k := range steps() {
				asModel(t, a, b, k)
			}
			for _, c := range edges() {
				asModelLatest(t, []uint32{a, b, c})
			}
			comesBack(t, a, b)
		}
	}
}

// comesBack is for P13.3: by what b is ahead of a, a is advanced to b.
func comesBack(t *testing.T, a, b uint32) {
	t.Helper()
	gap := Gap(a, b)
	if gap < -half || gap > half-1 {
		t.Errorf("Gap(%d, %d) = %d", a, b, gap)
	}
	if got := Add(a, gap); got != b {
		t.Errorf("Add(%d, Gap(%d, %d)) = %d", a, a, b, got)
	}
}

// drawNumber is any number, or one by an edge.
func drawNumber(r *rand.Rand) uint32 {
	if r.Intn(2) == 0 {
		return edges()[r.Intn(len(edges()))]
	}
	return r.Uint32()
}

// drawStep is an int of any size, or one by an edge.
func drawStep(r *rand.Rand) int {
	if r.Intn(4) == 0 {
		return steps()[r.Intn(len(steps()))]
	}
	return int(r.Uint64()) >> r.Intn(64)
}

// TestDrawn is for all promises: numbers that are drawn, far apart and close together.
func TestDrawn(t *testing.T) {
	r := rand.New(rand.NewSource(13))
	for range 200000 {
		a, k := drawNumber(r), drawStep(r)
		b := drawNumber(r)
		if r.Intn(2) == 0 {
			b = uint32(int64(a) + int64(r.Uint64())>>r.Intn(64))
		}
		asModel(t, a, b, k)
		asModel(t, b, a, int(a-b))
		comesBack(t, a, b)
		comesBack(t, b, a)
		if t.Failed() {
			return
		}
	}
}

// TestDrawnLatest is for P13.2: rows of all lengths, whose numbers lie anywhere or close together.
func TestDrawnLatest(t *testing.T) {
	r := rand.New(rand.NewSource(14))
	for range 5000 {
		first, wide := drawNumber(r), r.Intn(33)
		l := make([]uint32, r.Intn(300))
		for i := range l {
			l[i] = first + uint32(r.Int63n(1<<wide))
		}
		asModelLatest(t, l)
		if len(l) > 0 {
			want, _ := modelLatest(l)
			latest(t, l, want)
		}
		if t.Failed() {
			return
		}
	}
}

// TestOrder is for P13.3: of numbers that all lie within a run of 2^31, Less is the order in which they stand there, and Latest the last one in it.
func TestOrder(t *testing.T) {
	r := rand.New(rand.NewSource(15))
	for range 3000 {
		first, wide := drawNumber(r), r.Intn(32)
		// How far each number stands behind the first one of the run; the ends of the run are often among them.
		var places []int64
		for range 1 + r.Intn(12) {
			places = append(places, r.Int63n(1<<wide))
		}
		if r.Intn(2) == 0 {
			places = append(places, 0, 1<<wide-1)
		}
		r.Shuffle(len(places), func(i, j int) { places[i], places[j] = places[j], places[i] })
		ordered(t, first, places)
		if t.Failed() {
			return
		}
	}
}

// ordered tells if Less and Latest of the numbers that stand at these places of the run behind first are not those of the places.
func ordered(t *testing.T, first uint32, places []int64) {
	t.Helper()
	var l []uint32
	for _, p := range places {
		l = append(l, uint32((int64(first)+p)%round))
	}
	for i, a := range l {
		for j, b := range l {
			if got, want := Less(a, b), places[i] < places[j]; got != want {
				t.Errorf("Less(%d, %d) = %v", a, b, got)
			}
			if got, want := Gap(a, b), int(places[j]-places[i]); got != want {
				t.Errorf("Gap(%d, %d) = %d, not %d", a, b, got, want)
			}
		}
	}
	latest(t, l, uint32((int64(first)+slices.Max(places))%round))
}

// FuzzModel holds all calls against the model.
func FuzzModel(f *testing.F) {
	f.Add(uint32(last), uint32(1), uint32(half), 2)
	f.Add(uint32(0), uint32(half), uint32(7), math.MinInt)
	f.Fuzz(func(t *testing.T, a, b, c uint32, k int) {
		asModel(t, a, b, k)
		asModel(t, c, a, k)
		comesBack(t, a, b)
		asModelLatest(t, []uint32{a, b, c})
		asModelLatest(t, []uint32{c, b, a, b})
	})
}
