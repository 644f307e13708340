package group

import (
	"math/rand"
	"slices"
	"testing"

	"acequia/addr"
	"acequia/api"
	"acequia/tune"
)

// listener is a host that wants the same all the time: all but some sources, or some; and speaks that version.
type listener struct {
	exclude bool
	l       list
	older   int
}

// answer is what it says to a query for the group, or for some sources.
func (x listener) answer(asked list) api.Record {
	switch {
	case x.exclude && len(asked) > 0:
		return api.Record{Kind: api.IsIn, Sources: slices.DeleteFunc(asked, func(a api.Addr) bool { return slices.Contains(x.l, a) })}
	case x.exclude:
		return api.Record{Kind: api.IsEx, Sources: x.l}
	case len(asked) > 0:
		return api.Record{Kind: api.IsIn, Sources: slices.DeleteFunc(asked, func(a api.Addr) bool { return !slices.Contains(x.l, a) })}
	}
	return api.Record{Kind: api.IsIn, Sources: x.l}
}

// wants is whether the state lets through just what the listener wants, of sources that are any.
func (x listener) wants(s api.State, v6 bool) bool {
	for i := range len(letters) {
		a := source(v6, letters[i])
		lets := slices.Contains(s.On, a)
		if s.Exclude {
			lets = !slices.Contains(s.Off, a)
		}
		if lets != (x.exclude != slices.Contains(x.l, a)) {
			return false
		}
	}
	return s.Exclude == x.exclude
}

// drawnListener is one that wants something, of the latest version or (then of all sources) of an older one.
func drawnListener(r *rand.Rand, v6 bool) listener {
	x := listener{exclude: r.Intn(2) == 0}
	for i := range len(letters) {
		if r.Intn(8) == 0 && len(x.l) < api.MaxKept {
			x.l = append(x.l, source(v6, letters[i]))
		}
	}
	if len(x.l) == 0 {
		x.exclude = true
	}
	if r.Intn(4) == 0 {
		x = listener{true, nil, 1 + r.Intn(2)}
	}
	return x
}

// TestKept is for P17.4: the group of a host that answers each query in time is kept, at each tick.
func TestKept(t *testing.T) {
	r := rand.New(rand.NewSource(1))
	specific := 0
	for range 400 {
		d := newDraw(r)
		x, g, parameters := drawnListener(r, d.v6), New(d.v6), d.tune()
		g.Hear(0, parameters, x.older, x.answer(nil))
		// When the host answers the general query that is open, and the one for the group or for sources.
		general, special := -1, -1
		var asked list
		for now := range 300 {
			if now == special {
				g.Hear(now, parameters, x.older, x.answer(slices.Clone(asked)))
				special = -1
			}
			if now == general {
				g.Hear(now, parameters, x.older, x.answer(nil))
			}
			if now%parameters.Every == 0 && general <= now {
				general = now + r.Intn(parameters.Resp)
				if general == now {
					g.Hear(now, parameters, x.older, x.answer(nil))
				}
			}
			if special < 0 && r.Intn(5) == 0 {
				asked = d.wantedOf(x)
				g.Query(now, parameters, asked)
				special = now + r.Intn(tune.Final(parameters))
				specific++
				if special == now {
					g.Hear(now, parameters, x.older, x.answer(slices.Clone(asked)))
					special = -1
				}
			}
			if s := g.State(now); !x.wants(s, d.v6) {
				t.Fatalf("%v is wanted, at %d it is %v", x, now, s)
			}
		}
	}
	if specific < 1000 {
		t.Errorf("only %d queries for the group or for sources", specific)
	}
}

// wantedOf are some sources that a query asks for, good ones of the family, or none; where the host is an older one, none, as queries then are.
func (d draw) wantedOf(x listener) list {
	var out list
	for i := range len(letters) {
		if x.older == 0 && d.Intn(6) == 0 {
			out = append(out, source(d.v6, letters[i]))
		}
	}
	if d.Intn(3) == 0 {
		return nil
	}
	return out
}

// TestGone is for P17.4: a group for which nothing is heard for a membership's time is gone, whatever was heard before; and one that was wanted is there till then.
func TestGone(t *testing.T) {
	r := rand.New(rand.NewSource(2))
	stayed := 0
	for range 3000 {
		d := newDraw(r)
		g, parameters := New(d.v6), d.tune()
		now, member := 0, tune.Member(parameters)
		for range r.Intn(20) {
			now += r.Intn(9)
			switch r.Intn(6) {
			case 0:
				g.Query(now, parameters, d.list())
			case 1:
				g.Drop(now, d.list(), r.Intn(2) == 0)
			default:
				g.Hear(now, parameters, d.older(), api.Record{Kind: d.kind(), Sources: d.list()})
			}
		}
		// The last one that is heard.
		step, _ := g.Hear(now, parameters, 0, api.Record{Kind: d.kind(), Sources: d.list()})
		s := g.State(now + member - 1)
		if step.Group && !s.Exclude || len(step.Full) > 0 && len(s.On) == 0 {
			t.Fatalf("%v came to %v one tick ahead", step, s)
		}
		if step.Group || len(step.Full) > 0 {
			stayed++
		}
		s = g.State(now + member)
		if _, ok := g.Next(now + member); s.Exclude || len(s.On)+len(s.Off) > 0 || ok || g.Left(now+member) != 0 {
			t.Fatalf("%v came to %v behind a membership's time", step, s)
		}
	}
	if stayed < 1000 {
		t.Errorf("only %d of the groups were wanted", stayed)
	}
}

// TestAsked is for P17.4: the state at a time is the same whether it was asked for before or not.
func TestAsked(t *testing.T) {
	r := rand.New(rand.NewSource(3))
	for range 2000 {
		d := newDraw(r)
		asked, other := New(d.v6), New(d.v6)
		now := 0
		for range r.Intn(20) {
			next := now + r.Intn(14)
			for at := now; at <= next; at++ {
				ask(d, asked, at)
			}
			now = next
			l, all, version, parameters, kind := d.list(), r.Intn(3) == 0, d.older(), d.tune(), d.kind()
			for _, g := range []*Group{asked, other} {
				switch (now + kind) % 5 {
				case 0:
					g.Query(now, parameters, l)
				case 1:
					g.Drop(now, l, all)
				default:
					g.Hear(now, parameters, version, api.Record{Kind: kind, Sources: l})
				}
			}
		}
		// One is asked at each tick, the other one just at the end.
		end := now + r.Intn(45)
		for at := now; at < end; at++ {
			ask(d, asked, at)
		}
		one, two := asked.State(end), other.State(end)
		if !sameState(one, two) {
			t.Fatalf("at %d: %v, and if it is asked for before, %v", end, two, one)
		}
		if a, b := seen(asked, d.v6, end), seen(other, d.v6, end); a != b {
			t.Fatalf("at %d: %s, and if it is asked for before, %s", end, b, a)
		}
	}
}

// ask asks for something or other.
func ask(d draw, g *Group, at int) {
	switch d.Intn(8) {
	case 0:
		g.Left(at)
	case 1:
		g.Source(at, d.address())
	case 2:
		g.Mode(at)
	case 3:
		g.Next(at)
	case 4, 5:
		g.State(at)
	}
}

// TestGoodStates is for P17.1: all states are good ones, and no more is kept than may be.
func TestGoodStates(t *testing.T) {
	r := rand.New(rand.NewSource(4))
	full := 0
	for range 300 {
		d := newDraw(r)
		g, now := New(d.v6), 0
		for range 60 {
			now += r.Intn(4)
			g.Hear(now, quick(), d.older(), api.Record{Kind: d.kind(), Sources: d.list()})
			s := g.State(now)
			if len(s.On)+len(s.Off) > api.MaxKept || !s.Exclude && len(s.Off) > 0 {
				t.Fatalf("%v", s)
			}
			if len(s.On)+len(s.Off) == api.MaxKept {
				full++
			}
			for _, l := range []list{s.On, s.Off} {
				for i, a := range l {
					if a.V6 != d.v6 || !addr.Good(a) || i > 0 && addr.Cmp(l[i-1], a) >= 0 || slices.Contains(s.On, a) && slices.Contains(s.Off, a) {
						t.Fatalf("%v", s)
					}
				}
			}
		}
	}
	if full < 300 {
		t.Errorf("only %d of the states were full", full)
	}
}
