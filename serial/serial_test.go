package serial

import (
	"math"
	"slices"
	"testing"
)

// The number whose successor is 0, and the one on the other side of the circle from 0.
const (
	last = 4294967295
	half = 2147483648
)

func TestExamples(t *testing.T) {
	if got := Gap(4294967295, 1); got != 2 {
		t.Errorf("Gap(4294967295, 1) = %d, not 2", got)
	}
	if Less(0, 2147483648) || Less(2147483648, 0) {
		t.Error("0 and 2147483648 are less than one another")
	}
}

// TestAdd is for P13.1: steps forwards and backwards, and whole rounds.
func TestAdd(t *testing.T) {
	for _, x := range []struct {
		n    uint32
		k    int
		want uint32
	}{
		{0, 0, 0}, {7, 0, 7}, {half, 0, half}, {last, 0, last},
		{0, 1, 1}, {7, 1, 8}, {half - 1, 1, half}, {half, 1, half + 1}, {last - 1, 1, last}, {last, 1, 0},
		{0, -1, last}, {1, -1, 0}, {7, -1, 6}, {half, -1, half - 1}, {half + 1, -1, half}, {last, -1, last - 1},
		{last, 2, 1}, {last - 9, 10, 0}, {last - 9, 100, 90}, {4000000000, 1000000000, 705032704},
		{1, -2, last}, {9, -10, last}, {90, -100, last - 9}, {1000000000, -4000000000, 1294967296},
		{0, half - 1, half - 1}, {1, half - 1, half}, {half, half - 1, last}, {last, half - 1, half - 2},
		{0, half, half}, {1, half, half + 1}, {half - 1, half, last}, {half, half, 0}, {last, half, half - 1},
		{0, half + 1, half + 1}, {half - 1, half + 1, 0}, {last, half + 1, half},
		{0, -half, half}, {1, -half, half + 1}, {half - 1, -half, last}, {half, -half, 0}, {last, -half, half - 1},
		{0, -half - 1, half - 1}, {half, -half - 1, last}, {last, -half - 1, half - 2},
		{0, -half + 1, half + 1}, {half, -half + 1, 1},
		{0, last, last}, {1, last, 0}, {last, last, last - 1}, {0, -last, 1}, {last, -last, 0}, {1, -last, 2},
		{0, 1 << 32, 0}, {7, 1 << 32, 7}, {last, 1 << 32, last}, {0, 1<<32 + 1, 1}, {last, 1<<32 + 1, 0}, {5, 1<<32 + half, half + 5},
		{0, -1 << 32, 0}, {7, -1 << 32, 7}, {last, -1 << 32, last}, {0, -1<<32 - 1, last}, {7, -1<<32 - 1, 6}, {5, -1<<32 - half, half + 5},
		{0, 3 << 32, 0}, {7, 3<<32 + 5, 12}, {7, -3<<32 - 5, 2}, {9, 1 << 62, 9}, {9, -1 << 62, 9}, {9, 1<<62 + 3, 12},
		{0, math.MaxInt, last}, {1, math.MaxInt, 0}, {7, math.MaxInt, 6}, {7, math.MaxInt - 1, 5}, {last, math.MaxInt, last - 1},
		{0, math.MinInt, 0}, {7, math.MinInt, 7}, {7, math.MinInt + 1, 8}, {last, math.MinInt, last}, {last, math.MinInt + 1, 0},
	} {
		if got := Add(x.n, x.k); got != x.want {
			t.Errorf("Add(%d, %d) = %d, not %d", x.n, x.k, got, x.want)
		}
	}
}

// TestGapLess is for P13.1: each pair both ways.
func TestGapLess(t *testing.T) {
	for _, x := range []struct {
		a, b uint32
		want int
		back int
	}{
		{0, 0, 0, 0}, {1, 1, 0, 0}, {half - 1, half - 1, 0, 0}, {half, half, 0, 0}, {last, last, 0, 0},
		{0, 1, 1, -1}, {1, 2, 1, -1}, {half - 1, half, 1, -1}, {half, half + 1, 1, -1}, {last - 1, last, 1, -1}, {last, 0, 1, -1},
		{last, 1, 2, -2}, {last - 9, 90, 100, -100}, {last - 1, 2, 4, -4}, {3000000000, 200000000, 1494967296, -1494967296},
		{10, 1000, 990, -990}, {half - 500, half + 500, 1000, -1000}, {0, 1 << 24, 1 << 24, -1 << 24}, {0, 1 << 30, 1 << 30, -1 << 30},
		{0, half - 1, half - 1, -half + 1}, {1, half, half - 1, -half + 1}, {half, last, half - 1, -half + 1},
		{half + 1, 0, half - 1, -half + 1}, {last, half - 2, half - 1, -half + 1},
		{0, half, -half, -half}, {1, half + 1, -half, -half}, {half - 1, last, -half, -half}, {1 << 30, 3 << 30, -half, -half},
		{0, half + 1, -half + 1, half - 1}, {1, half + 2, -half + 1, half - 1}, {half - 2, last, -half + 1, half - 1},
		{half, 1, -half + 1, half - 1}, {last, half, -half + 1, half - 1},
	} {
		gapLess(t, x.a, x.b, x.want)
		gapLess(t, x.b, x.a, x.back)
	}
}

// gapLess tells if b is not want ahead of a, or if Less says otherwise.
func gapLess(t *testing.T, a, b uint32, want int) {
	t.Helper()
	if got := Gap(a, b); got != want {
		t.Errorf("Gap(%d, %d) = %d, not %d", a, b, got, want)
	}
	if got := Less(a, b); got != (want > 0) {
		t.Errorf("Less(%d, %d) = %v", a, b, got)
	}
}

// TestWithin is for P13.2: the first one, the last one and their neighbours, for each wide, from numbers in all places.
func TestWithin(t *testing.T) {
	for _, x := range []struct {
		wide  int
		count uint32 // how many numbers that is
	}{
		{math.MinInt, 0}, {math.MinInt + 1, 0}, {-1<<32 + 1, 0}, {-1 << 32, 0}, {-half, 0}, {-half + 1, 0}, {-2, 0}, {-1, 0},
		{0, 0}, {1, 1}, {2, 2}, {3, 3}, {8, 8}, {64, 64}, {1 << 30, 1 << 30},
		{half - 2, half - 2}, {half - 1, half - 1}, {half, half - 1}, {half + 1, half - 1},
		{last, half - 1}, {1 << 32, half - 1}, {1<<32 + 1, half - 1}, {1<<32 + half, half - 1}, {3 << 32, half - 1},
		{math.MaxInt - 1, half - 1}, {math.MaxInt, half - 1},
	} {
		for _, from := range []uint32{0, 1, 7, 1 << 30, half - 1, half, half + 1, half + 2, 3 << 30, last - 63, last - 7, last - 1, last} {
			within(t, from, from, x.wide, x.count > 0)
			within(t, from+1, from, x.wide, x.count > 1)
			within(t, from+2, from, x.wide, x.count > 2)
			within(t, from-1, from, x.wide, false)
			within(t, from-2, from, x.wide, false)
			within(t, from+x.count-1, from, x.wide, x.count > 0)
			within(t, from+x.count, from, x.wide, false)
			within(t, from+x.count+1, from, x.wide, false)
			within(t, from+half-2, from, x.wide, x.count > half-2)
			within(t, from+half-1, from, x.wide, false)
			within(t, from+half, from, x.wide, false)
		}
	}
}

// TestWithinWritten is for P13.2: numbers that go past 2^32 - 1, and numbers that don't.
func TestWithinWritten(t *testing.T) {
	for _, x := range []struct {
		n, from uint32
		wide    int
		want    bool
	}{
		{9, 10, 5, false}, {10, 10, 5, true}, {12, 10, 5, true}, {14, 10, 5, true}, {15, 10, 5, false},
		{last - 3, last - 2, 5, false}, {last - 2, last - 2, 5, true}, {last, last - 2, 5, true},
		{0, last - 2, 5, true}, {1, last - 2, 5, true}, {2, last - 2, 5, false},
		{last, last, 1, true}, {0, last, 1, false}, {0, last, 2, true}, {last - 1, last, 2, false},
		{0, half, half - 1, false}, {last - 1, half, half - 1, true}, {last, half, half - 1, false}, {last, half, half, false},
		{half - 2, 0, half - 1, true}, {half - 1, 0, half, false}, {half - 1, 0, 1 << 32, false}, {half, 0, 1 << 32, false},
		{half - 3, last, half - 1, true}, {half - 2, last, half - 1, false}, {half - 2, last, math.MaxInt, false},
		{5, 5, 0, false}, {5, 5, -1, false}, {4, 5, -1, false}, {0, 0, math.MinInt, false},
	} {
		within(t, x.n, x.from, x.wide, x.want)
	}
}

func within(t *testing.T, n, from uint32, wide int, want bool) {
	t.Helper()
	if got := Within(n, from, wide); got != want {
		t.Errorf("Within(%d, %d, %d) = %v", n, from, wide, got)
	}
}

// TestLatest is for P13.2, with numbers for which the order decides and others for which it doesn't.
func TestLatest(t *testing.T) {
	for _, x := range []struct {
		l    []uint32
		want uint32
	}{
		{[]uint32{0}, 0}, {[]uint32{7}, 7}, {[]uint32{half}, half}, {[]uint32{last}, last},
		{[]uint32{0, 0}, 0}, {[]uint32{7, 7, 7}, 7}, {[]uint32{last, last, last, last}, last},
		{[]uint32{1, 2}, 2}, {[]uint32{2, 1}, 2}, {[]uint32{1, 2, 3, 10, 11}, 11}, {[]uint32{11, 10, 3, 2, 1}, 11},
		{[]uint32{3, 9, 4}, 9}, {[]uint32{9, 3, 4}, 9}, {[]uint32{4, 3, 9}, 9}, {[]uint32{9, 4, 9, 3}, 9}, {[]uint32{4, 9, 4, 9}, 9},
		// On both sides of 0.
		{[]uint32{last, 0}, 0}, {[]uint32{0, last}, 0}, {[]uint32{last - 5, last, 0, 3}, 3}, {[]uint32{3, 0, last, last - 5}, 3},
		{[]uint32{0, 4000000000, 5, 3000000000}, 5}, {[]uint32{last, last - 1, last - 2}, last},
		{[]uint32{half - 1, half, half + 1}, half + 1}, {[]uint32{half + 1, half, half - 1}, half + 1},
		{[]uint32{0, half - 1}, half - 1}, {[]uint32{half - 1, 0}, half - 1}, {[]uint32{0, half + 1}, 0}, {[]uint32{half + 1, 0}, 0},
		// Apart by 2^31: the candidate stays.
		{[]uint32{0, half}, 0}, {[]uint32{half, 0}, half}, {[]uint32{last, half - 1}, last}, {[]uint32{half - 1, last}, half - 1},
		{[]uint32{0, half, half, 0}, 0}, {[]uint32{half, 0, 0, half}, half}, {[]uint32{0, half, 1}, 1}, {[]uint32{half, 0, 1}, half},
		{[]uint32{0, 1, half, half + 1}, half + 1}, {[]uint32{0, half, half - 1}, half - 1}, {[]uint32{half, 0, half - 1}, half},
		// Round the whole circle: each is ahead of the one before it, and the first of the last.
		{[]uint32{0, 1431655765, 2863311530}, 2863311530}, {[]uint32{1431655765, 2863311530, 0}, 0}, {[]uint32{2863311530, 0, 1431655765}, 1431655765},
		{[]uint32{0, 2863311530, 1431655765}, 1431655765}, {[]uint32{1431655765, 0, 2863311530}, 2863311530}, {[]uint32{2863311530, 1431655765, 0}, 0},
		{[]uint32{0, 1 << 30, half, 3 << 30}, 3 << 30}, {[]uint32{3 << 30, half, 1 << 30, 0}, 0},
		{[]uint32{0, 1 << 30, half, 3 << 30, 0}, 0}, {[]uint32{0, half, 1 << 30, 3 << 30}, 1 << 30}, {[]uint32{1 << 30, 0, 3 << 30, half}, half},
		{[]uint32{0, 1<<31 - 1, 1<<32 - 2, 1<<31 - 3}, 1<<31 - 3},
	} {
		latest(t, x.l, x.want)
	}
	for _, l := range [][]uint32{nil, {}, make([]uint32, 0, 4)} {
		if got, ok := Latest(l...); got != 0 || ok {
			t.Errorf("Latest() = %d, %v", got, ok)
		}
	}
	if got, ok := Latest(); got != 0 || ok {
		t.Errorf("Latest() without arguments = %d, %v", got, ok)
	}
}

// latest tells if want is not the latest of l, or if l is changed, or what lies behind it.
func latest(t *testing.T, l []uint32, want uint32) {
	t.Helper()
	behind := []uint32{want + 1, 1, half, last}
	given := append(slices.Clone(l), behind...)
	if got, ok := Latest(given[:len(l)]...); got != want || !ok {
		t.Errorf("Latest(%v) = %d, %v, not %d", shown(l), got, ok, want)
	}
	if !slices.Equal(given[:len(l)], l) || !slices.Equal(given[len(l):], behind) {
		t.Errorf("Latest(%v) changes what it is given", shown(l))
	}
}

// shown is the beginning of l.
func shown(l []uint32) []uint32 {
	return l[:min(len(l), 12)]
}

// TestLatestLong is for P13.2: the latest one anywhere in long rows, beside 0 and away from it.
func TestLatestLong(t *testing.T) {
	for _, size := range []int{100, 101, 256, 1000} {
		for place := range size {
			for _, top := range []uint32{0, 50, half, last} {
				// The others lie below top, in no order, and some of them more than once.
				l := make([]uint32, size)
				for i := range l {
					l[i] = top - 1 - uint32(i*37%(size/2+1))
				}
				l[place] = top
				latest(t, l, top)
			}
		}
	}
}

// TestLatestRows is for P13.2: long rows that rise, that fall, and that go round more than once.
func TestLatestRows(t *testing.T) {
	for _, first := range []uint32{0, 1, half - 60, half, last - 60, last} {
		for _, step := range []uint32{1, 2, 1 << 16, 1 << 20, 1 << 24, 1 << 30, half - 1} {
			var up, down []uint32
			for i := range uint32(300) {
				up = append(up, first+i*step)
				down = append(down, first-i*step)
				latest(t, up, up[i])
				if uint64(i)*uint64(step) < half {
					latest(t, down, first)
				}
			}
		}
	}
}
