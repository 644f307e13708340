package clock

import (
	"cmp"
	"math"
	"math/rand"
	"slices"
	"testing"
)

// name is a key of a type of its own.
type name string

// texts, signed, unsigned, small and names are keys in increasing order, with the least and the greatest ones.
func texts() []string {
	return []string{"", "\x00", "10", "9", "A", "Z", "a", "a\x00", "aa", "b", "zz", "é", "\xff", "\xff\xff"}
}

func signed() []int {
	return []int{math.MinInt, math.MinInt + 1, -1 << 32, -10, -2, -1, 0, 1, 2, 10, 1 << 32, math.MaxInt - 1, math.MaxInt}
}

func unsigned() []uint64 {
	return []uint64{0, 1, 2, 9, 10, 1<<32 - 1, 1 << 32, 1<<63 - 1, 1 << 63, 1<<63 + 1, math.MaxUint64 - 1, math.MaxUint64}
}

func small() []int8 {
	return []int8{-128, -127, -2, -1, 0, 1, 2, 126, 127}
}

func names() []name {
	return []name{"", "east", "eastern", "north", "west", "wester"}
}

// times are times in increasing order.
func times() []int {
	return []int{math.MinInt, math.MinInt + 1, -1 << 40, -2, -1, 0, 1, 2, 1 << 40, math.MaxInt - 1, math.MaxInt}
}

// pair is a key and its deadline.
type pair[K cmp.Ordered] struct {
	key K
	at  int
}

// with is a clock with these deadlines.
func with[K cmp.Ordered](l ...pair[K]) *Clock[K] {
	c := New[K]()
	for _, x := range l {
		c.Set(x.key, x.at)
	}
	return c
}

// keysOf are the keys of l whose deadlines are at most now.
func keysOf[K cmp.Ordered](l []pair[K], now int) []K {
	var out []K
	for _, x := range l {
		if x.at <= now {
			out = append(out, x.key)
		}
	}
	return out
}

// rising is l, put in order by looking at all pairs.
func rising[K cmp.Ordered](l []K) []K {
	out := slices.Clone(l)
	for i := range out {
		for j := range i {
			if out[i] < out[j] {
				out[i], out[j] = out[j], out[i]
			}
		}
	}
	return out
}

// turned is l from its end to its beginning.
func turned[T any](l []T) []T {
	out := slices.Clone(l)
	slices.Reverse(out)
	return out
}

// same tells if two lists are not equal.
func same[T comparable](t *testing.T, what string, got, want []T) {
	t.Helper()
	if !slices.Equal(got, want) {
		t.Errorf("%s = %v, not %v", what, got, want)
	}
}

// holds tells what c answers otherwise than a clock with the deadlines want does, which stand in their order.
func holds[K cmp.Ordered](t *testing.T, what string, c *Clock[K], want ...pair[K]) {
	t.Helper()
	if got := c.Len(); got != len(want) {
		t.Errorf("%s: Len() = %d, not %d", what, got, len(want))
	}
	same(t, what+": Keys()", c.Keys(), rising(keysOf(want, math.MaxInt)))
	for _, x := range want {
		if at, ok := c.At(x.key); at != x.at || !ok {
			t.Errorf("%s: At(%v) = %d, %v, not %d", what, x.key, at, ok, x.at)
		}
	}
	var first pair[K]
	if len(want) > 0 {
		first = want[0]
	}
	if key, at, ok := c.Next(); key != first.key || at != first.at || ok != (len(want) > 0) {
		t.Errorf("%s: Next() = %v, %d, %v, not %v", what, key, at, ok, first)
	}
	for _, now := range around(want) {
		same(t, what+": Due", c.Due(now), keysOf(want, now))
	}
}

// around are the deadlines of l, the times beside them, and the least and the greatest one.
func around[K cmp.Ordered](l []pair[K]) []int {
	out := []int{math.MinInt, 0, math.MaxInt}
	for _, x := range l {
		out = append(out, x.at)
		if x.at > math.MinInt {
			out = append(out, x.at-1)
		}
		if x.at < math.MaxInt {
			out = append(out, x.at+1)
		}
	}
	return out
}

// TestNew is for P12.1 and P12.2: a new clock has no keys.
func TestNew(t *testing.T) {
	newOf(t, texts())
	newOf(t, signed())
	newOf(t, unsigned())
	newOf(t, small())
	newOf(t, names())
}

func newOf[K cmp.Ordered](t *testing.T, keys []K) {
	for _, c := range []*Clock[K]{New[K](), {}} {
		holds(t, "new", c)
		for _, key := range keys {
			if at, ok := c.At(key); at != 0 || ok {
				t.Errorf("new: At(%v) = %d, %v", key, at, ok)
			}
			if c.Cut(key) {
				t.Errorf("new: Cut(%v)", key)
			}
		}
		for _, now := range times() {
			same(t, "new: Due", c.Due(now), nil)
			same(t, "new: Pop", c.Pop(now), nil)
		}
		holds(t, "new, after it was asked", c)
		holds(t, "copy of a new one", c.Copy())
		if !c.Set(keys[0], 7) {
			t.Error("new: a key was set before")
		}
		holds(t, "a first key", c, pair[K]{keys[0], 7})
	}
	if a, b := New[K](), New[K](); a == nil || b == nil || a == b {
		t.Error("two new clocks are one, or none")
	} else {
		a.Set(keys[1], 1)
		holds(t, "another new clock", b)
	}
}

// TestSetCut is for P12.1, for keys of each kind and all times.
func TestSetCut(t *testing.T) {
	setCutOf(t, texts())
	setCutOf(t, signed())
	setCutOf(t, unsigned())
	setCutOf(t, small())
	setCutOf(t, names())
}

func setCutOf[K cmp.Ordered](t *testing.T, keys []K) {
	c := New[K]()
	for i, key := range keys {
		other := keys[(i+1)%len(keys)]
		for j, at := range times() {
			step := func(what string, got, want bool) {
				t.Helper()
				if got != want {
					t.Errorf("%v at %d: %s says %v", key, at, what, got)
				}
			}
			step("the first Set", c.Set(key, at), true)
			holds(t, "set", c, pair[K]{key, at})
			step("Set to the same", c.Set(key, at), false)
			holds(t, "set to the same", c, pair[K]{key, at})
			for k, again := range times() {
				step("Set to an earlier or a later", c.Set(key, again), false)
				holds(t, "set again", c, pair[K]{key, again})
				if k < j != (again < at) {
					t.Fatal("the times don't rise")
				}
			}
			step("Cut of another key", c.Cut(other), false)
			if at, ok := c.At(other); at != 0 || ok {
				t.Errorf("At(%v), which never was, = %d, %v", other, at, ok)
			}
			step("Cut", c.Cut(key), true)
			holds(t, "cut", c)
			if at, ok := c.At(key); at != 0 || ok {
				t.Errorf("At(%v), which was cut, = %d, %v", key, at, ok)
			}
			step("the second Cut", c.Cut(key), false)
			holds(t, "cut twice", c)
			step("Set after Cut", c.Set(key, at), true)
			holds(t, "set after it was cut", c, pair[K]{key, at})
			step("Cut after that", c.Cut(key), true)
		}
	}
}

// TestKeys is for P12.1: increasing, whatever the order of the calls and of the deadlines.
func TestKeys(t *testing.T) {
	keysOfAll(t, texts())
	keysOfAll(t, signed())
	keysOfAll(t, unsigned())
	keysOfAll(t, small())
	keysOfAll(t, names())
}

func keysOfAll[K cmp.Ordered](t *testing.T, keys []K) {
	same(t, "the keys of the test", keys, rising(keys))
	r := rand.New(rand.NewSource(1))
	for round := range 60 {
		order := slices.Clone(keys)
		if round == 1 {
			order = turned(keys)
		} else if round > 1 {
			r.Shuffle(len(order), func(i, j int) { order[i], order[j] = order[j], order[i] })
		}
		c := New[K]()
		for i, key := range order {
			if !c.Set(key, times()[r.Intn(len(times()))]) || c.Len() != i+1 {
				t.Errorf("%v is set before, or %d of %d keys", key, c.Len(), i+1)
			}
			same(t, "Keys()", c.Keys(), rising(order[:i+1]))
		}
		for _, key := range order {
			c.Set(key, times()[r.Intn(len(times()))])
		}
		same(t, "Keys() of all", c.Keys(), keys)
		for i, key := range order {
			if !c.Cut(key) || c.Len() != len(order)-i-1 {
				t.Errorf("%v isn't there, or %d keys are left", key, c.Len())
			}
			same(t, "Keys() of what is left", c.Keys(), rising(order[i+1:]))
		}
	}
}

// TestSetOthers is for P12.1: what is done with a key leaves all others as they are.
func TestSetOthers(t *testing.T) {
	type one = pair[string]
	c := with(one{"", 3}, one{"a", 1}, one{"b", 2})
	holds(t, "three", c, one{"a", 1}, one{"b", 2}, one{"", 3})
	if c.Set("b", 5) || c.Set("a", -5) || c.Set("", 3) {
		t.Error("a key that was set is new")
	}
	holds(t, "set again", c, one{"a", -5}, one{"", 3}, one{"b", 5})
	if !c.Set("c", 3) || !c.Set("A", 3) {
		t.Error("a new key was set before")
	}
	holds(t, "five", c, one{"a", -5}, one{"", 3}, one{"A", 3}, one{"c", 3}, one{"b", 5})
	if !c.Cut("") || c.Cut("") || c.Cut("d") || !c.Cut("b") {
		t.Error("a key that was there was not, or otherwise")
	}
	holds(t, "three of five", c, one{"a", -5}, one{"A", 3}, one{"c", 3})
	if !c.Set("", math.MaxInt) || !c.Set("b", math.MinInt) {
		t.Error("a key that was cut is set")
	}
	holds(t, "five again", c, one{"b", math.MinInt}, one{"a", -5}, one{"A", 3}, one{"c", 3}, one{"", math.MaxInt})
}

// TestZero is for P12.1: a deadline of 0 and the zero key are a deadline and a key.
func TestZero(t *testing.T) {
	c := with(pair[int]{0, 0})
	if at, ok := c.At(0); at != 0 || !ok {
		t.Errorf("At(0) = %d, %v", at, ok)
	}
	if key, at, ok := c.Next(); key != 0 || at != 0 || !ok {
		t.Errorf("Next() = %d, %d, %v", key, at, ok)
	}
	if c.Set(0, 0) || c.Len() != 1 || !c.Cut(0) || c.Cut(0) {
		t.Error("the zero key at 0")
	}
	if key, at, ok := c.Next(); key != 0 || at != 0 || ok {
		t.Errorf("Next() of nothing = %d, %d, %v", key, at, ok)
	}
}

// TestOrder is for P12.2: by deadline, then by key, where the keys alone stand the other way round.
func TestOrder(t *testing.T) {
	orderOf(t, texts())
	orderOf(t, signed())
	orderOf(t, unsigned())
	orderOf(t, small())
	orderOf(t, names())
}

func orderOf[K cmp.Ordered](t *testing.T, keys []K) {
	var level, falling, pairs []pair[K]
	for _, key := range keys {
		level = append(level, pair[K]{key, 4})
	}
	for i, key := range turned(keys) {
		falling = append(falling, pair[K]{key, 3*i - 10})
	}
	for i := len(keys) - 1; i > 0; i -= 2 {
		pairs = append(pairs, pair[K]{keys[i-1], -i}, pair[K]{keys[i], -i})
	}
	slices.SortStableFunc(pairs, func(a, b pair[K]) int { return a.at - b.at })
	r := rand.New(rand.NewSource(2))
	for range 20 {
		for _, l := range [][]pair[K]{nil, level[:1], level, falling, pairs} {
			mixed := slices.Clone(l)
			r.Shuffle(len(mixed), func(i, j int) { mixed[i], mixed[j] = mixed[j], mixed[i] })
			holds(t, "in order", with(mixed...), l...)
			pops(t, mixed, l)
		}
	}
}

// pops tells what Pop answers or leaves wrongly, at each time, of a clock of what is set so; want are the same in their order.
func pops[K cmp.Ordered](t *testing.T, set, want []pair[K]) {
	t.Helper()
	for _, now := range around(want) {
		c := with(set...)
		gone := keysOf(want, now)
		same(t, "Pop", c.Pop(now), gone)
		holds(t, "popped", c, want[len(gone):]...)
		for _, key := range gone {
			if at, ok := c.At(key); at != 0 || ok {
				t.Errorf("At(%v), which was popped, = %d, %v", key, at, ok)
			}
		}
		same(t, "Pop again", c.Pop(now), nil)
		holds(t, "popped again", c, want[len(gone):]...)
		for _, key := range gone {
			if !c.Set(key, now) {
				t.Errorf("%v was set, but popped", key)
			}
		}
	}
}

// TestDue is for P12.2: times below all deadlines, equal to one, between two and above all.
func TestDue(t *testing.T) {
	all := []pair[string]{{"m", -4}, {"a", 0}, {"z", 0}, {"k", 3}, {"", 8}, {"b", 8}}
	for _, x := range []struct {
		now  int
		want []string
	}{
		{math.MinInt, nil}, {-5, nil},
		{-4, []string{"m"}}, {-3, []string{"m"}}, {-1, []string{"m"}},
		{0, []string{"m", "a", "z"}}, {2, []string{"m", "a", "z"}},
		{3, []string{"m", "a", "z", "k"}}, {7, []string{"m", "a", "z", "k"}},
		{8, []string{"m", "a", "z", "k", "", "b"}}, {9, []string{"m", "a", "z", "k", "", "b"}}, {math.MaxInt, []string{"m", "a", "z", "k", "", "b"}},
	} {
		c := with(turned(all)...)
		same(t, "Due", c.Due(x.now), x.want)
		same(t, "Due again", c.Due(x.now), x.want)
		holds(t, "after Due", c, all...)
		same(t, "Pop", c.Pop(x.now), x.want)
		holds(t, "after Pop", c, all[len(x.want):]...)
	}
}

// TestFar is for P12.2: deadlines whose difference is no int.
func TestFar(t *testing.T) {
	all := []pair[int]{{5, math.MinInt}, {6, math.MinInt}, {4, math.MinInt + 1}, {3, -1}, {2, 0}, {1, math.MaxInt - 1}, {-1, math.MaxInt}, {0, math.MaxInt}}
	holds(t, "far apart", with(all...), all...)
	holds(t, "far apart, set from the end", with(turned(all)...), all...)
	pops(t, all, all)
}

// TestResults is for P12.1 and P12.2: lists that were given out are memory of their own.
func TestResults(t *testing.T) {
	all := []pair[int]{{9, 1}, {8, 1}, {7, 2}, {6, 3}, {5, 4}}
	inOrder := []pair[int]{{8, 1}, {9, 1}, {7, 2}, {6, 3}, {5, 4}}
	for _, now := range []int{0, 1, 3, 9} {
		c := with(all...)
		lists := [][]int{c.Keys(), c.Due(now), c.Keys(), c.Due(now), c.Due(9), c.Copy().Pop(now), c.Copy().Keys()}
		before := make([][]int, len(lists))
		for i, l := range lists {
			before[i] = slices.Clone(l)
		}
		scratch(lists[1], 100)
		scratch(lists[2], 200)
		lists[1], lists[2] = before[1], before[2]
		holds(t, "after its lists were changed", c, inOrder...)
		popped := c.Pop(now)
		gone := slices.Clone(popped)
		c.Set(9, -1)
		c.Set(4, 0)
		c.Cut(7)
		c.Pop(2)
		c.Due(9)
		c.Keys()
		same(t, "what was popped", popped, gone)
		for i, l := range lists {
			same(t, "a list that was given out", l, before[i])
		}
		scratch(popped, 300)
		holds(t, "after what was popped was changed", c, inOrder[max(3, len(gone)):]...)
	}
}

// scratch writes over a list and its spare capacity.
func scratch(l []int, from int) {
	for i := range l[:cap(l)] {
		l[:cap(l)][i] = from + i
	}
}

// TestCopy is for P12.2: the same deadlines, and from then on two clocks.
func TestCopy(t *testing.T) {
	copyOf(t, texts())
	copyOf(t, signed())
	copyOf(t, unsigned())
	copyOf(t, small())
	copyOf(t, names())
}

func copyOf[K cmp.Ordered](t *testing.T, keys []K) {
	all := []pair[K]{{keys[1], 2}, {keys[2], 2}, {keys[0], 5}}
	changes := []struct {
		name string
		do   func(*Clock[K])
		want []pair[K]
	}{
		{"a new key", func(c *Clock[K]) { c.Set(keys[3], 0) }, slices.Insert(slices.Clone(all), 0, pair[K]{keys[3], 0})},
		{"a later time", func(c *Clock[K]) { c.Set(keys[1], 9) }, []pair[K]{all[1], all[2], {keys[1], 9}}},
		{"an earlier time", func(c *Clock[K]) { c.Set(keys[0], -1) }, []pair[K]{{keys[0], -1}, all[0], all[1]}},
		{"a cut", func(c *Clock[K]) { c.Cut(keys[2]) }, []pair[K]{all[0], all[2]}},
		{"a pop", func(c *Clock[K]) { c.Pop(4) }, all[2:]},
		{"a pop of all", func(c *Clock[K]) { c.Pop(5) }, nil},
	}
	for _, x := range changes {
		c := with(all...)
		d := c.Copy()
		holds(t, "copied", c, all...)
		holds(t, "a copy", d, all...)
		x.do(c)
		holds(t, x.name, c, x.want...)
		holds(t, "a copy before "+x.name, d, all...)
		holds(t, "a copy after "+x.name, c.Copy(), x.want...)
		c = with(all...)
		d = c.Copy()
		e := d.Copy()
		x.do(d)
		holds(t, x.name+" in a copy", d, x.want...)
		holds(t, "what was copied before "+x.name, c, all...)
		holds(t, "a copy of the copy before "+x.name, e, all...)
	}
	for _, c := range []*Clock[K]{New[K](), {}, with(all[0])} {
		c.Cut(all[0].key)
		d := c.Copy()
		holds(t, "a copy of nothing", d)
		if !d.Set(keys[0], 1) {
			t.Error("a key in a copy of nothing")
		}
		holds(t, "a copy of nothing with a key", d, pair[K]{keys[0], 1})
		holds(t, "what was copied with nothing", c)
		if !c.Set(keys[1], 2) {
			t.Error("a key in what was copied")
		}
		holds(t, "a copy of nothing, still", d, pair[K]{keys[0], 1})
	}
}

// TestNil is for what the chapter says of a nil clock.
func TestNil(t *testing.T) {
	nilOf(t, texts())
	nilOf(t, signed())
	nilOf(t, unsigned())
	nilOf(t, small())
	nilOf(t, names())
}

func nilOf[K cmp.Ordered](t *testing.T, keys []K) {
	var c *Clock[K]
	for _, key := range keys {
		for _, at := range times() {
			if c.Set(key, at) {
				t.Errorf("nil: Set(%v, %d)", key, at)
			}
			if got, ok := c.At(key); got != 0 || ok {
				t.Errorf("nil: At(%v) = %d, %v", key, got, ok)
			}
			if c.Cut(key) {
				t.Errorf("nil: Cut(%v)", key)
			}
			same(t, "nil: Due", c.Due(at), nil)
			same(t, "nil: Pop", c.Pop(at), nil)
		}
	}
	holds(t, "nil", c)
	d := c.Copy()
	if d == nil {
		t.Fatal("a copy of nil is nil")
	}
	holds(t, "a copy of nil", d)
	if !d.Set(keys[1], 3) || !d.Set(keys[0], 3) || d.Set(keys[0], 3) {
		t.Error("a copy of nil can't be set")
	}
	holds(t, "a copy of nil with keys", d, pair[K]{keys[0], 3}, pair[K]{keys[1], 3})
	holds(t, "nil with a copy that has keys", c)
	holds(t, "another copy of nil", c.Copy())
	same(t, "Pop of a copy of nil", d.Pop(3), keys[:2])
	holds(t, "a copy of nil, popped", d)
}

// TestExample is the one of the chapter.
func TestExample(t *testing.T) {
	c := New[string]()
	c.Set("b", 5)
	c.Set("a", 5)
	c.Set("c", 4)
	same(t, "Due(5)", c.Due(5), []string{"c", "a", "b"})
}
