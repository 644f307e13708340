package filter

import (
	"math"
	"math/rand"
	"slices"
	"testing"

	"acequia/addr"
	"acequia/api"
)

// place is where one source stands: in On, in Off, and in the list.
type place struct{ on, off, in bool }

// fate is what becomes of one source: where it stands behind the record, and in which of its lists.
type fate struct{ on, off, full, rest, ask bool }

// cell is what the model says of one source: the nine rows of the table, read for it alone.
func cell(exclude bool, kind int, p place) fate {
	known := p.on || p.off
	if exclude {
		switch kind {
		case 1, 5:
			return fate{on: known && !p.off || p.in, off: p.off && !p.in, full: p.in}
		case 3:
			return fate{on: known && !p.off || p.in, off: p.off && !p.in, full: p.in, ask: p.on && !p.in}
		case 2:
			return fate{on: p.in && !p.off, off: p.in && p.off, full: p.in && !known}
		case 4:
			return fate{on: p.in && !p.off, off: p.in && p.off, rest: p.in && !known, ask: p.in && !p.off}
		case 6:
			return fate{on: p.on || p.in && !known, off: p.off, rest: p.in && !known, ask: p.in && !p.off}
		}
		return fate{on: p.on, off: p.off}
	}
	switch kind {
	case 1, 5:
		return fate{on: p.on || p.in, full: p.in}
	case 3:
		return fate{on: p.on || p.in, full: p.in, ask: p.on && !p.in}
	case 6:
		return fate{on: p.on, ask: p.on && p.in}
	case 2:
		return fate{on: p.on && p.in, off: !p.on && p.in}
	case 4:
		return fate{on: p.on && p.in, off: !p.on && p.in, ask: p.on && p.in}
	}
	return fate{on: p.on}
}

// pool are good addresses in order, of both families, some of the same bytes.
func pool() list {
	var out list
	for i := range 6 {
		out = append(out, addr.Ip4(10, byte(i/4), byte(i/2%2), byte(i%2)))
	}
	for i, a := range out {
		a.V6 = true
		a.B[15] = byte(i % 2)
		out = append(out, a)
	}
	return out
}

// holds is whether a is in l, wherever.
func holds(l list, a api.Addr) bool {
	for _, x := range l {
		if x == a {
			return true
		}
	}
	return false
}

// places are where the addresses of the pool stand.
func places(s api.State, l list) []place {
	var out []place
	for _, a := range pool() {
		out = append(out, place{holds(s.On, a), holds(s.Off, a), holds(l, a)})
	}
	return out
}

// model is Apply, source by source.
func model(s api.State, kind int, l list) api.Step {
	var out api.Step
	for i, p := range places(s, l) {
		a := pool()[i]
		f := cell(s.Exclude, kind, p)
		for _, x := range []struct {
			in bool
			to *list
		}{{f.on, &out.State.On}, {f.off, &out.State.Off}, {f.full, &out.Full}, {f.rest, &out.Rest}, {f.ask, &out.Ask}} {
			if x.in {
				*x.to = append(*x.to, a)
			}
		}
	}
	out.Group = kind == api.IsEx || kind == api.ToEx
	out.All = s.Exclude && kind == api.ToIn
	out.State.Exclude = s.Exclude || out.Group
	return out
}

// modelExpire is Expire, source by source.
func modelExpire(s api.State, l list) api.State {
	out := api.State{Exclude: s.Exclude}
	for i, p := range places(s, l) {
		switch {
		case p.on && !p.in:
			out.On = append(out.On, pool()[i])
		case p.off || p.on && s.Exclude:
			out.Off = append(out.Off, pool()[i])
		}
	}
	return out
}

// isGood is Good, by looking at all pairs.
func isGood(s api.State) bool {
	both := append(slices.Clone(s.On), s.Off...)
	for i, a := range both {
		if !addr.Good(a) || i >= len(s.On) && !s.Exclude {
			return false
		}
		for j, b := range both {
			sameList := (i < len(s.On)) == (j < len(s.On))
			if i != j && a == b || sameList && i < j && addr.Cmp(a, b) >= 0 {
				return false
			}
		}
	}
	return true
}

// same is whether both steps are equal, with their sets in order.
func same(a, b api.Step) bool {
	return equal(a.State, b.State) && slices.Equal(a.Full, b.Full) && slices.Equal(a.Rest, b.Rest) && a.Group == b.Group && slices.Equal(a.Ask, b.Ask) && a.All == b.All
}

// asModel tells what the calls answer otherwise than the model does; s is good.
func asModel(t *testing.T, s api.State, kind int, l list) {
	t.Helper()
	if !isGood(s) || !Good(s) {
		t.Fatalf("%v is not good", s)
	}
	step := Apply(s, kind, l)
	if want := model(s, kind, l); !same(step, want) {
		t.Fatalf("Apply(%v, %d, %v) = %v, not %v", s, kind, l, step, want)
	}
	expired := Expire(s, l)
	if want := modelExpire(s, l); !equal(expired, want) {
		t.Fatalf("Expire(%v, %v) = %v, not %v", s, l, expired, want)
	}
	turned := Turn(s)
	if want := (api.State{On: s.On}); !equal(turned, want) {
		t.Fatalf("Turn(%v) = %v", s, turned)
	}
	for _, x := range []api.State{step.State, expired, turned} {
		if !Good(x) || !isGood(x) {
			t.Fatalf("%v with %d, %v came to %v", s, kind, l, x)
		}
		if got := Gone(x); got != (len(x.On) == 0 && !x.Exclude) {
			t.Fatalf("Gone(%v) = %t", x, got)
		}
		if got := Same(s, x); got != equal(s, x) {
			t.Fatalf("Same(%v, %v) = %t", s, x, got)
		}
	}
	forwards(t, s, kind, l, step.State)
}

// forwards is for P15.4: what is let through behind a record.
func forwards(t *testing.T, s api.State, kind int, l list, after api.State) {
	t.Helper()
	for _, a := range append(pool(), addr.Ip4(10, 9, 9, 9)) {
		lets, in := Lets(after, a), holds(l, a)
		switch kind {
		case api.IsEx, api.ToEx:
			if !in && lets == holds(after.Off, a) || !in && !lets {
				t.Fatalf("%v with %d, %v: %v is not let through", s, kind, l, a)
			}
		case api.IsIn, api.ToIn, api.Allow:
			if in && !lets || !in && lets != Lets(s, a) {
				t.Fatalf("%v with %d, %v: %v is let through: %t", s, kind, l, a, lets)
			}
		case api.Block:
			if lets != Lets(s, a) {
				t.Fatalf("%v with %d, %v: %v is let through: %t", s, kind, l, a, lets)
			}
		}
	}
}

// TestRegions is for P15.2 to P15.4: each of the regions (in On or not, in Off or not, in the list or not) that a good state may have has no address, one or two.
func TestRegions(t *testing.T) {
	for code := range 3 * 3 * 3 * 3 * 3 * 3 {
		var s api.State
		var l list
		rest := code
		for region := range 6 {
			for i := range rest % 3 {
				// The addresses of a region are not beside one another.
				a := pool()[region+6*i]
				if region%2 == 1 {
					l = append(l, a)
				}
				switch region / 2 {
				case 1:
					s.On = append(s.On, a)
				case 2:
					s.Off = append(s.Off, a)
				}
			}
			rest /= 3
		}
		s.On, s.Off = inOrder(s.On), inOrder(s.Off)
		for kind := -1; kind < 9; kind++ {
			if len(s.Off) == 0 {
				asModel(t, s, kind, l)
			}
			s.Exclude = true
			asModel(t, s, kind, l)
			s.Exclude = false
		}
	}
}

// inOrder are the addresses of l by the order of the pool.
func inOrder(l list) list {
	var out list
	for _, a := range pool() {
		if holds(l, a) {
			out = append(out, a)
		}
	}
	return out
}

// drawn is a good state, and a list, in any order, with addresses twice and with ones that are not good.
func drawn(r *rand.Rand) (api.State, list) {
	s := api.State{Exclude: r.Intn(2) == 0}
	density := 1 + r.Intn(6)
	for _, a := range pool() {
		switch r.Intn(2 + density) {
		case 0:
			s.On = append(s.On, a)
		case 1:
			if s.Exclude {
				s.Off = append(s.Off, a)
			}
		}
	}
	return s, drawnList(r)
}

func drawnList(r *rand.Rand) list {
	var l list
	for range r.Intn(14) {
		a := pool()[r.Intn(len(pool()))]
		if !a.V6 && r.Intn(8) == 0 {
			a.B[4+r.Intn(12)] = 1
		}
		l = append(l, a)
	}
	return l
}

// TestDrawn is for P15.1 to P15.4: states and lists that are drawn.
func TestDrawn(t *testing.T) {
	r := rand.New(rand.NewSource(15))
	for range 20000 {
		s, l := drawn(r)
		kind := r.Intn(8)
		if r.Intn(20) == 0 {
			kind = []int{math.MinInt, math.MaxInt, -1, 7, 255}[r.Intn(5)]
		}
		asModel(t, s, kind, l)
	}
}

// TestDrawnLine is for P15.4: a state that goes through a row of records and of timers that run out.
func TestDrawnLine(t *testing.T) {
	r := rand.New(rand.NewSource(16))
	for range 300 {
		var s api.State
		for range 60 {
			l, kind := drawnList(r), 1+r.Intn(6)
			asModel(t, s, kind, l)
			switch r.Intn(12) {
			case 0:
				s = Turn(s)
			case 1, 2:
				s = Expire(s, l)
			default:
				s = Apply(s, kind, l).State
			}
		}
	}
}

// TestGoodDrawn is for P15.1: states of any lists, good ones and others.
func TestGoodDrawn(t *testing.T) {
	r := rand.New(rand.NewSource(17))
	good := 0
	for range 60000 {
		s := api.State{Exclude: r.Intn(3) > 0, On: bits(r), Off: bits(r)}
		if got, want := Good(s), isGood(s); got != want {
			t.Fatalf("Good(%v) = %t", s, got)
		} else if got {
			good++
		}
		other := api.State{Exclude: r.Intn(3) > 0, On: bits(r), Off: bits(r)}
		if isGood(s) && isGood(other) && Same(s, other) != equal(s, other) {
			t.Fatalf("Same(%v, %v)", s, other)
		}
	}
	if good < 1000 {
		t.Errorf("only %d of the states were good", good)
	}
}

// bits is a short list, of which each address is near the one ahead of it.
func bits(r *rand.Rand) list {
	var out list
	at := 0
	for range r.Intn(4) {
		at += r.Intn(4)
		a := pool()[at%len(pool())]
		if r.Intn(60) == 0 {
			a = api.Addr{B: [16]byte{0: a.B[0], 8: 1}}
		}
		out = append(out, a)
	}
	return out
}

// TestAny is for the whole: no state and no list makes a call panic, good or not.
func TestAny(t *testing.T) {
	r := rand.New(rand.NewSource(18))
	for range 20000 {
		s := api.State{Exclude: r.Intn(2) == 0, On: drawnList(r), Off: drawnList(r)}
		l, kind := drawnList(r), r.Intn(9)-1
		safe := newKeeper(&s.On, &s.Off, &l)
		step := Apply(s, kind, l)
		safe.apart(t, []list{step.State.On, step.State.Off, step.Full, step.Rest, step.Ask})
		expired, turned := Expire(s, l), Turn(s)
		safe.apart(t, []list{expired.On, expired.Off, turned.On, turned.Off})
		Good(s)
		Gone(s)
		Lets(s, pool()[r.Intn(12)])
		Same(s, expired)
		Same(turned, s)
		safe.apart(t, nil)
	}
}

// keeper knows the lists that were handed in, with what stands in their spare capacity.
type keeper struct{ lists, before []list }

// newKeeper puts spare capacity behind each of the lists, and keeps how they are.
func newKeeper(all ...*list) keeper {
	var k keeper
	for _, l := range all {
		whole := append(slices.Clone(*l), source('7'), source('8'), source('x'))
		*l = whole[:len(*l)]
		k.lists = append(k.lists, whole)
		k.before = append(k.before, slices.Clone(whole))
	}
	return k
}

// apart tells if what was handed in has changed, or if one of the results is memory of that, or of another result: it overwrites them all, with their spare capacity.
func (k keeper) apart(t *testing.T, results []list) {
	t.Helper()
	k.stayed(t)
	before := make([]list, len(results))
	for i, l := range results {
		before[i] = slices.Clone(l)
	}
	for i, l := range results {
		if !slices.Equal(l, before[i]) {
			t.Fatalf("result %d is another's memory", i)
		}
		for j := range l[:cap(l)] {
			l[:cap(l)][j] = api.Addr{V6: true, B: [16]byte{9, 9}}
		}
		k.stayed(t)
	}
}

func (k keeper) stayed(t *testing.T) {
	t.Helper()
	for i, l := range k.lists {
		if !slices.Equal(l, k.before[i]) {
			t.Fatalf("argument %d was changed", i)
		}
	}
}

// TestMemory is for the whole: what comes in stays as it was, with its spare capacity, and what comes out is memory of its own.
func TestMemory(t *testing.T) {
	for _, exclude := range []bool{false, true} {
		for kind := -1; kind < 9; kind++ {
			for _, text := range []string{"", "1", "12", "34", "1234", "245", "56", "012345678"} {
				s, l := onlyText("12"), listed(text)
				if exclude {
					s = exceptText("12", "34")
				}
				safe := newKeeper(&s.On, &s.Off, &l)
				step := Apply(s, kind, l)
				safe.apart(t, []list{step.State.On, step.State.Off, step.Full, step.Rest, step.Ask})
				expired := Expire(s, l)
				safe.apart(t, []list{expired.On, expired.Off})
				turned := Turn(s)
				safe.apart(t, []list{turned.On, turned.Off})
			}
		}
	}
}

// FuzzModel holds all calls against the model: each byte of on says where an address stands, and those of in are the list.
func FuzzModel(f *testing.F) {
	f.Add(true, 2, "\x01\x01\x02\x02\x00\x00", "\x01\x03\x04")
	f.Add(false, 4, "\x01\x00\x01", "\x00\x01\x0b\x0b")
	f.Add(false, math.MaxInt, "\x01", "")
	f.Fuzz(func(t *testing.T, exclude bool, kind int, on, in string) {
		s := api.State{Exclude: exclude}
		for i, a := range pool() {
			switch {
			case i >= len(on):
			case on[i]%3 == 1:
				s.On = append(s.On, a)
			case on[i]%3 == 2 && exclude:
				s.Off = append(s.Off, a)
			}
		}
		var l list
		for i := range len(in) {
			l = append(l, pool()[int(in[i])%len(pool())])
		}
		asModel(t, s, kind, l)
	})
}
