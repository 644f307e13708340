package code

import (
	"math"
	"testing"
)

// kind is the calls of one width of codes, its greatest code and the greatest value, and the values of all its codes, worked out apart from the package.
type kind struct {
	name   string
	value  func(int) int
	code   func(int) int
	exact  func(int) bool
	most   int
	top    int
	values []int
}

// kinds are both widths.
func kinds() []kind {
	return []kind{
		{"8", Value8, Code8, Exact8, 255, 31744, values(128, 16)},
		{"16", Value16, Code16, Exact16, 65535, 8387584, values(32768, 4096)},
	}
}

// values are the values of all codes, the plain ones first: behind these come eight runs of the same length, each with steps twice as great as the run ahead of it.
func values(plain, run int) []int {
	var out []int
	for n := range plain {
		out = append(out, n)
	}
	next, step := plain, 8
	for range 8 {
		for range run {
			out = append(out, next)
			next += step
		}
		step *= 2
	}
	return out
}

// outside are numbers that lie beyond most, or below 0.
func outside(most int) (low, high []int) {
	return []int{-1, -2, -127, -128, -129, -256, -32768, -65536, -1 << 31, math.MinInt + 1, math.MinInt},
		[]int{most + 1, most + 2, most + 128, 2 * most, 2*most + 1, 2*most + 2, 1 << 24, math.MaxInt32, math.MaxInt - 1, math.MaxInt}
}

func TestExamples(t *testing.T) {
	if got := Value8(0x8f); got != 248 {
		t.Errorf("Value8(0x8f) = %d, not 248", got)
	}
	if got := Code8(255); got != 0x8f {
		t.Errorf("Code8(255) = %#x, not 0x8f", got)
	}
	if got := Code8(256); got != 0x90 {
		t.Errorf("Code8(256) = %#x, not 0x90", got)
	}
}

func TestValue8Written(t *testing.T) {
	for _, x := range []struct{ c, want int }{
		{0, 0}, {1, 1}, {2, 2}, {16, 16}, {100, 100}, {126, 126}, {127, 127},
		{0x80, 128}, {0x81, 136}, {0x87, 184}, {0x88, 192}, {0x8e, 240}, {0x8f, 248},
		{0x90, 256}, {0x91, 272}, {0x9f, 496},
		{0xa0, 512}, {0xa1, 544}, {0xaf, 992},
		{0xb0, 1024}, {0xb1, 1088}, {0xbf, 1984},
		{0xc0, 2048}, {0xc1, 2176}, {0xcf, 3968},
		{0xd0, 4096}, {0xd1, 4352}, {0xdf, 7936},
		{0xe0, 8192}, {0xe1, 8704}, {0xef, 15872},
		{0xf0, 16384}, {0xf1, 17408}, {0xfe, 30720}, {0xff, 31744},
		{256, 31744}, {0x180, 31744}, {65535, 31744}, {math.MaxInt, 31744},
		{-1, 0}, {-128, 0}, {-256, 0}, {math.MinInt, 0},
	} {
		if got := Value8(x.c); got != x.want {
			t.Errorf("Value8(%#x) = %d, not %d", x.c, got, x.want)
		}
	}
}

func TestValue16Written(t *testing.T) {
	for _, x := range []struct{ c, want int }{
		{0, 0}, {1, 1}, {127, 127}, {128, 128}, {255, 255}, {256, 256}, {4096, 4096}, {32766, 32766}, {32767, 32767},
		{0x8000, 32768}, {0x8001, 32776}, {0x8800, 49152}, {0x8ffe, 65520}, {0x8fff, 65528},
		{0x9000, 65536}, {0x9001, 65552}, {0x9fff, 131056},
		{0xa000, 131072}, {0xa001, 131104}, {0xafff, 262112},
		{0xb000, 262144}, {0xb001, 262208}, {0xbfff, 524224},
		{0xc000, 524288}, {0xc001, 524416}, {0xcfff, 1048448},
		{0xd000, 1048576}, {0xd001, 1048832}, {0xdfff, 2096896},
		{0xe000, 2097152}, {0xe001, 2097664}, {0xefff, 4193792},
		{0xf000, 4194304}, {0xf001, 4195328}, {0xfffe, 8386560}, {0xffff, 8387584},
		{65536, 8387584}, {0x18000, 8387584}, {math.MaxInt, 8387584},
		{-1, 0}, {-32768, 0}, {-65536, 0}, {math.MinInt, 0},
	} {
		if got := Value16(x.c); got != x.want {
			t.Errorf("Value16(%#x) = %d, not %d", x.c, got, x.want)
		}
	}
}

func TestCode8Written(t *testing.T) {
	for _, x := range []struct {
		n, want int
		exact   bool
	}{
		{math.MinInt, 0, false}, {-31744, 0, false}, {-128, 0, false}, {-1, 0, false},
		{0, 0, true}, {1, 1, true}, {100, 100, true}, {126, 126, true}, {127, 127, true},
		{128, 0x80, true}, {129, 0x80, false}, {135, 0x80, false}, {136, 0x81, true}, {137, 0x81, false},
		{247, 0x8e, false}, {248, 0x8f, true}, {249, 0x8f, false}, {255, 0x8f, false},
		{256, 0x90, true}, {257, 0x90, false}, {271, 0x90, false}, {272, 0x91, true},
		{495, 0x9e, false}, {496, 0x9f, true}, {511, 0x9f, false}, {512, 0xa0, true},
		{1023, 0xaf, false}, {1024, 0xb0, true}, {2047, 0xbf, false}, {2048, 0xc0, true},
		{4095, 0xcf, false}, {4096, 0xd0, true}, {8191, 0xdf, false}, {8192, 0xe0, true},
		{16383, 0xef, false}, {16384, 0xf0, true}, {16385, 0xf0, false},
		{30719, 0xfd, false}, {30720, 0xfe, true}, {31743, 0xfe, false}, {31744, 0xff, true},
		{31745, 0xff, false}, {32767, 0xff, false}, {32768, 0xff, false}, {33792, 0xff, false},
		{1 << 30, 0xff, false}, {math.MaxInt - 1, 0xff, false}, {math.MaxInt, 0xff, false},
	} {
		if got := Code8(x.n); got != x.want {
			t.Errorf("Code8(%d) = %#x, not %#x", x.n, got, x.want)
		}
		if got := Exact8(x.n); got != x.exact {
			t.Errorf("Exact8(%d) = %t", x.n, got)
		}
	}
}

func TestCode16Written(t *testing.T) {
	for _, x := range []struct {
		n, want int
		exact   bool
	}{
		{math.MinInt, 0, false}, {-8387584, 0, false}, {-32768, 0, false}, {-1, 0, false},
		{0, 0, true}, {1, 1, true}, {127, 127, true}, {128, 128, true}, {129, 129, true}, {32766, 32766, true}, {32767, 32767, true},
		{32768, 0x8000, true}, {32769, 0x8000, false}, {32775, 0x8000, false}, {32776, 0x8001, true}, {32777, 0x8001, false},
		{65527, 0x8ffe, false}, {65528, 0x8fff, true}, {65535, 0x8fff, false},
		{65536, 0x9000, true}, {65551, 0x9000, false}, {65552, 0x9001, true},
		{131071, 0x9fff, false}, {131072, 0xa000, true}, {262143, 0xafff, false}, {262144, 0xb000, true},
		{524287, 0xbfff, false}, {524288, 0xc000, true}, {1048575, 0xcfff, false}, {1048576, 0xd000, true},
		{2097151, 0xdfff, false}, {2097152, 0xe000, true}, {4194303, 0xefff, false}, {4194304, 0xf000, true}, {4194305, 0xf000, false},
		{8386559, 0xfffd, false}, {8386560, 0xfffe, true}, {8387583, 0xfffe, false}, {8387584, 0xffff, true},
		{8387585, 0xffff, false}, {8388607, 0xffff, false}, {8388608, 0xffff, false}, {8389632, 0xffff, false},
		{1 << 30, 0xffff, false}, {math.MaxInt - 1, 0xffff, false}, {math.MaxInt, 0xffff, false},
	} {
		if got := Code16(x.n); got != x.want {
			t.Errorf("Code16(%d) = %#x, not %#x", x.n, got, x.want)
		}
		if got := Exact16(x.n); got != x.exact {
			t.Errorf("Exact16(%d) = %t", x.n, got)
		}
	}
}

// TestValueAll goes over all codes, and over some beyond both ends.
func TestValueAll(t *testing.T) {
	for _, k := range kinds() {
		if len(k.values) != k.most+1 || k.values[k.most] != k.top {
			t.Fatalf("%s: %d values up to %d", k.name, len(k.values), k.values[k.most])
		}
		for c, want := range k.values {
			if got := k.value(c); got != want {
				t.Fatalf("Value%s(%#x) = %d, not %d", k.name, c, got, want)
			}
		}
		low, high := outside(k.most)
		for _, c := range low {
			if got := k.value(c); got != 0 {
				t.Errorf("Value%s(%d) = %d, not 0", k.name, c, got)
			}
		}
		for _, c := range high {
			if got := k.value(c); got != k.top {
				t.Errorf("Value%s(%d) = %d, not %d", k.name, c, got, k.top)
			}
		}
	}
}

// TestCodeAll goes over all numbers up to one well above the greatest value, and over some beyond both ends.
func TestCodeAll(t *testing.T) {
	for _, k := range kinds() {
		want := 0
		for n := range k.top + k.top/8 {
			if want < k.most && k.values[want+1] <= n {
				want++
			}
			if got := k.code(n); got != want {
				t.Fatalf("Code%s(%d) = %#x, not %#x", k.name, n, got, want)
			}
			if got := k.exact(n); got != (k.values[want] == n) {
				t.Fatalf("Exact%s(%d) = %t", k.name, n, got)
			}
		}
		low, high := outside(k.top)
		checkOutside(t, k, low, 0)
		checkOutside(t, k, high, k.most)
	}
}

// checkOutside holds numbers that no code stands for against the code that they have all the same.
func checkOutside(t *testing.T, k kind, numbers []int, want int) {
	t.Helper()
	for _, n := range numbers {
		if got := k.code(n); got != want {
			t.Errorf("Code%s(%d) = %#x, not %#x", k.name, n, got, want)
		}
		if k.exact(n) {
			t.Errorf("Exact%s(%d)", k.name, n)
		}
	}
}

// TestAroundValues takes each value, and the numbers one below it and one above it.
func TestAroundValues(t *testing.T) {
	for _, k := range kinds() {
		exact := map[int]bool{}
		for _, v := range k.values {
			exact[v] = true
		}
		for c, v := range k.values {
			below, above := max(c-1, 0), c
			if exact[v+1] {
				above = c + 1
			}
			for n, want := range map[int]int{v - 1: below, v: c, v + 1: above} {
				if got := k.code(n); got != want {
					t.Fatalf("Code%s(%d) = %#x, not %#x", k.name, n, got, want)
				}
				if got := k.exact(n); got != exact[n] {
					t.Fatalf("Exact%s(%d) = %t", k.name, n, got)
				}
			}
		}
	}
}

// TestRisesAndComesBack is the properties of the chapter, of all codes.
func TestRisesAndComesBack(t *testing.T) {
	for _, k := range kinds() {
		last := -1
		for c := range k.most + 1 {
			v := k.value(c)
			if v <= last {
				t.Fatalf("Value%s(%#x) = %d, behind %d", k.name, c, v, last)
			}
			last = v
			if got := k.code(v); got != c {
				t.Fatalf("Code%s(%d) = %#x, not %#x", k.name, v, got, c)
			}
			if !k.exact(v) {
				t.Fatalf("Exact%s(%d) is false", k.name, v)
			}
		}
	}
}
