package clock

import (
	"cmp"
	"math"
	"math/rand"
	"slices"
	"testing"
)

// model is what a clock should be: a list, in any order, that is searched through.
type model[K cmp.Ordered] struct {
	l []pair[K]
}

// place is where the key stands, or -1.
func (m *model[K]) place(key K) int {
	for i, x := range m.l {
		if x.key == key {
			return i
		}
	}
	return -1
}

func (m *model[K]) set(key K, at int) bool {
	if i := m.place(key); i >= 0 {
		m.l[i].at = at
		return false
	}
	m.l = append(m.l, pair[K]{key, at})
	return true
}

func (m *model[K]) cut(key K) bool {
	i := m.place(key)
	if i < 0 {
		return false
	}
	m.l = slices.Delete(m.l, i, i+1)
	return true
}

func (m *model[K]) at(key K) (int, bool) {
	if i := m.place(key); i >= 0 {
		return m.l[i].at, true
	}
	return 0, false
}

func (m *model[K]) copy() *model[K] {
	return &model[K]{slices.Clone(m.l)}
}

// inOrder are the deadlines in their order, each put in behind all that come before it.
func (m *model[K]) inOrder() []pair[K] {
	var out []pair[K]
	for _, x := range m.l {
		i := 0
		for i < len(out) && before(out[i], x) {
			i++
		}
		out = slices.Insert(out, i, x)
	}
	return out
}

func (m *model[K]) due(now int) []K {
	return keysOf(m.inOrder(), now)
}

func (m *model[K]) pop(now int) []K {
	out := m.due(now)
	for _, key := range out {
		m.cut(key)
	}
	return out
}

// before is whether a comes before b: the earlier deadline, at the same time the lesser key.
func before[K cmp.Ordered](a, b pair[K]) bool {
	if a.at != b.at {
		return a.at < b.at
	}
	return a.key < b.key
}

// TestModel is for P12.1 and P12.2: calls that are drawn, on several clocks, each beside its model.
func TestModel(t *testing.T) {
	modelOf(t, 1, texts())
	modelOf(t, 2, signed())
	modelOf(t, 3, unsigned())
	modelOf(t, 4, small())
	modelOf(t, 5, names())
}

func modelOf[K cmp.Ordered](t *testing.T, seed int64, keys []K) {
	r := rand.New(rand.NewSource(seed))
	for range 40 {
		clocks := make([]*Clock[K], 3)
		models := make([]*model[K], 3)
		for i := range clocks {
			clocks[i], models[i] = New[K](), &model[K]{}
		}
		for range 120 {
			i := r.Intn(len(clocks))
			if r.Intn(12) == 0 {
				j := r.Intn(len(clocks))
				clocks[i], models[i] = clocks[j].Copy(), models[j].copy()
			} else {
				drawnCall(t, r, keys, clocks[i], models[i])
			}
			for j, c := range clocks {
				holds(t, "drawn", c, models[j].inOrder()...)
			}
			if t.Failed() {
				t.FailNow()
			}
		}
	}
}

// drawnTime is a time, most often one of a few.
func drawnTime(r *rand.Rand) int {
	if r.Intn(6) == 0 {
		return times()[r.Intn(len(times()))]
	}
	return r.Intn(9) - 4
}

// drawnCall makes one call of a clock and of its model, and tells if they answer otherwise.
func drawnCall[K cmp.Ordered](t *testing.T, r *rand.Rand, keys []K, c *Clock[K], m *model[K]) {
	t.Helper()
	key, now := keys[r.Intn(len(keys))], drawnTime(r)
	switch r.Intn(8) {
	case 0, 1, 2, 3:
		if got, want := c.Set(key, now), m.set(key, now); got != want {
			t.Errorf("Set(%v, %d) = %v", key, now, got)
		}
	case 4, 5:
		if got, want := c.Cut(key), m.cut(key); got != want {
			t.Errorf("Cut(%v) = %v", key, got)
		}
	case 6:
		at, ok := c.At(key)
		if want, is := m.at(key); at != want || ok != is {
			t.Errorf("At(%v) = %d, %v, not %d, %v", key, at, ok, want, is)
		}
		same(t, "Due", c.Due(now), m.due(now))
	case 7:
		same(t, "Pop", c.Pop(now), m.pop(now))
	}
}

// TestPopRises is for P12.3: with increasing times and without Set, what is popped rises from call to call.
func TestPopRises(t *testing.T) {
	popRises(t, 11, texts())
	popRises(t, 12, signed())
	popRises(t, 13, unsigned())
	popRises(t, 14, small())
	popRises(t, 15, names())
}

func popRises[K cmp.Ordered](t *testing.T, seed int64, keys []K) {
	r := rand.New(rand.NewSource(seed))
	several := 0
	for range 400 {
		c, m := New[K](), &model[K]{}
		for range r.Intn(3 * len(keys)) {
			key, at := keys[r.Intn(len(keys))], drawnTime(r)
			c.Set(key, at)
			m.set(key, at)
		}
		all := m.copy()
		var got []pair[K]
		calls := 0
		for _, now := range append(drawnTimes(r), math.MaxInt) {
			popped := c.Pop(now)
			calls += min(len(popped), 1)
			for _, key := range popped {
				at, ok := all.at(key)
				if !ok || at > now {
					t.Fatalf("Pop(%d) has %v, whose deadline is %d, %v", now, key, at, ok)
				}
				got = append(got, pair[K]{key, at})
				m.cut(key)
			}
			if r.Intn(3) == 0 {
				key := keys[r.Intn(len(keys))]
				if c.Cut(key) != m.cut(key) {
					t.Fatalf("Cut(%v) otherwise than in the model", key)
				}
			}
			if l := m.inOrder(); len(l) > 0 && l[0].at <= now || c.Len() != len(l) {
				t.Fatalf("Pop(%d) left %v of what was due, and %d keys", now, l, c.Len())
			}
		}
		for i := range got {
			if i > 0 && !before(got[i-1], got[i]) {
				t.Fatalf("%v was popped before %v", got[i-1], got[i])
			}
		}
		holds(t, "all popped", c)
		if calls > 1 {
			several++
		}
	}
	if several < 100 {
		t.Errorf("only %d times several calls popped something", several)
	}
}

// drawnTimes are some times that don't fall, some of them the same.
func drawnTimes(r *rand.Rand) []int {
	var out []int
	for range r.Intn(8) {
		out = append(out, drawnTime(r))
	}
	slices.Sort(out)
	return out
}

// TestMany is for P12.1 to P12.3, with many more keys than the layers above have.
func TestMany(t *testing.T) {
	const n = 1 << 16
	c := New[int]()
	r := rand.New(rand.NewSource(21))
	for _, i := range r.Perm(n) {
		if !c.Set(i, -i/2) {
			t.Fatalf("%d was set before", i)
		}
	}
	d := c.Copy()
	for i, key := range c.Keys() {
		if at, ok := c.At(key); key != i || at != -i/2 || !ok {
			t.Fatalf("key %d is %d at %d, %v", i, key, at, ok)
		}
	}
	var got []int
	for now := -n; now < 0; now += 1000 {
		got = append(got, c.Pop(now)...)
	}
	got = append(got, c.Pop(0)...)
	if len(got) != n || c.Len() != 0 || d.Len() != n {
		t.Fatalf("%d popped, %d left, %d in the copy", len(got), c.Len(), d.Len())
	}
	for i, key := range got {
		if i > 0 && !before(pair[int]{got[i-1], -got[i-1] / 2}, pair[int]{key, -key / 2}) {
			t.Fatalf("%d was popped before %d", got[i-1], key)
		}
	}
	same(t, "the order in the copy", d.Due(0), got)
}
