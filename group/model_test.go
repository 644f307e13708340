package group

import (
	"math"
	"math/rand"
	"slices"
	"strings"
	"testing"

	"acequia/addr"
	"acequia/api"
)

// one is a source of a model: left out, or with a deadline.
type one struct {
	a     api.Addr
	out   bool
	until int
}

// model is a group as the chapter tells it, source by source, with nothing of what the package is built on.
type model struct {
	v6       bool
	now      int
	exclude  bool
	until    int
	v1, v2   int
	lastMode int
	sources  []one
}

func newModel(v6 bool) *model {
	m := &model{v6: v6, lastMode: 3}
	if v6 {
		m.lastMode = 2
	}
	return m
}

// pass lets one deadline after another expire: the earliest one, and of these the group's last.
func (m *model) pass(now int) {
	if now > 1000000000000 {
		now = 1000000000000
	}
	if now > m.now {
		m.now = now
	}
	for {
		first := -1
		for i, x := range m.sources {
			if !x.out && (first < 0 || x.until < m.sources[first].until) {
				first = i
			}
		}
		switch {
		case first >= 0 && m.sources[first].until <= m.now && (!m.exclude || m.sources[first].until <= m.until):
			m.end(first)
		case m.exclude && m.until <= m.now:
			m.turn()
		default:
			return
		}
	}
}

// end is the end of a source.
func (m *model) end(i int) {
	if m.exclude {
		m.sources[i] = one{a: m.sources[i].a, out: true}
		return
	}
	m.sources = slices.Delete(m.sources, i, i+1)
}

// turn is the end of the group's own deadline.
func (m *model) turn() {
	m.exclude = false
	m.sources = slices.DeleteFunc(m.sources, func(x one) bool { return x.out })
}

func (m *model) place(a api.Addr) int {
	return slices.IndexFunc(m.sources, func(x one) bool { return x.a == a })
}

func (m *model) state() api.State {
	s := api.State{Exclude: m.exclude}
	for _, x := range m.sources {
		if x.out {
			s.Off = append(s.Off, x.a)
		} else {
			s.On = append(s.On, x.a)
		}
	}
	return s
}

func (m *model) mode() int {
	if m.v1 > m.now {
		return 1
	}
	if m.v2 > m.now && !m.v6 {
		return 2
	}
	return m.lastMode
}

// fates are the rows of the table of chapter 15, source by source: what becomes of sources of On and of Off that are not in the record, and of those of On, of Off and of neither that are: where they stand behind it, if anywhere, and in which lists of the step.
func fates(exclude bool, kind int) [5]string {
	if exclude {
		switch kind {
		case 1, 5:
			return [5]string{"on", "off", "on full", "on full", "on full"}
		case 2:
			return [5]string{"", "", "on", "off", "on full"}
		case 3:
			return [5]string{"on ask", "off", "on full", "on full", "on full"}
		case 4:
			return [5]string{"", "", "on ask", "off", "on rest ask"}
		case 6:
			return [5]string{"on", "off", "on ask", "off", "on rest ask"}
		}
		return [5]string{"on", "off", "on", "off", ""}
	}
	switch kind {
	case 1, 5:
		return [5]string{"on", "", "on full", "", "on full"}
	case 2:
		return [5]string{"", "", "on", "", "off"}
	case 3:
		return [5]string{"on ask", "", "on full", "", "on full"}
	case 4:
		return [5]string{"", "", "on ask", "", "off"}
	case 6:
		return [5]string{"on", "", "on ask", "", ""}
	}
	return [5]string{"on", "", "on", "", ""}
}

// used are the sources of a record that count, and how many there is no room for.
func (m *model) used(kind int, l list) (list, int) {
	var all list
	for _, a := range l {
		if a.V6 == m.v6 && addr.Good(a) && !slices.Contains(all, a) {
			all = append(all, a)
		}
	}
	slices.SortFunc(all, addr.Cmp)
	var out list
	room, lost := 32-len(m.sources), 0
	for _, a := range all {
		switch {
		case m.place(a) >= 0 || kind == 6 && !m.exclude:
			out = append(out, a)
		case room > 0:
			out = append(out, a)
			room--
		default:
			lost++
		}
	}
	return out, lost
}

func (m *model) hear(now int, t api.Tune, older int, r api.Record) (api.Step, int) {
	m.pass(now)
	member := m.now + t.Robust*t.Every + t.Resp
	if older == 1 {
		m.v1 = member
	}
	if older == 2 && !m.v6 {
		m.v2 = member
	}
	l := r.Sources
	if mode := m.mode(); mode < m.lastMode {
		if r.Kind == 6 || r.Kind == 3 && mode == 1 && !m.v6 {
			return api.Step{State: m.state()}, 0
		}
		if r.Kind == 4 {
			l = nil
		}
	}
	l, lost := m.used(r.Kind, l)
	return m.apply(r.Kind, l, member), lost
}

// apply goes over all sources that the group has or that are used, by their order.
func (m *model) apply(kind int, l list, member int) api.Step {
	all := slices.Clone(l)
	for _, x := range m.sources {
		if !slices.Contains(all, x.a) {
			all = append(all, x.a)
		}
	}
	slices.SortFunc(all, addr.Cmp)
	var step api.Step
	var next []one
	for _, a := range all {
		x, cell := one{a: a}, 4
		if i := m.place(a); i >= 0 {
			x, cell = m.sources[i], 0
			if x.out {
				cell = 1
			}
			if slices.Contains(l, a) {
				cell += 2
			}
		}
		words := strings.Fields(fates(m.exclude, kind)[cell])
		if slices.Contains(words, "full") {
			step.Full = append(step.Full, a)
			x.until = member
		}
		if slices.Contains(words, "rest") {
			step.Rest = append(step.Rest, a)
			x.until = m.until
		}
		if slices.Contains(words, "ask") {
			step.Ask = append(step.Ask, a)
		}
		if len(words) > 0 && words[0] != "ask" {
			x.out = words[0] == "off"
			next = append(next, x)
		}
	}
	step.All = kind == 3 && m.exclude
	step.Group = kind == 2 || kind == 4
	if step.Group {
		m.exclude, m.until = true, member
	}
	m.sources = next
	step.State = m.state()
	return step
}

func (m *model) query(now int, t api.Tune, l list) bool {
	m.pass(now)
	final := m.now + t.Last*t.Count
	if len(l) == 0 {
		if !m.exclude || m.until <= final {
			return false
		}
		m.until = final
		return true
	}
	changed := false
	for i, x := range m.sources {
		if !x.out && x.until > final && slices.Contains(l, x.a) {
			m.sources[i].until = final
			changed = true
		}
	}
	return changed
}

func (m *model) drop(now int, l list, all bool) bool {
	m.pass(now)
	changed := false
	for _, a := range l {
		if i := m.place(a); i >= 0 && !m.sources[i].out {
			m.end(i)
			changed = true
		}
	}
	if all && m.exclude {
		m.turn()
		changed = true
	}
	return changed
}

func (m *model) left(now int) int {
	m.pass(now)
	if !m.exclude {
		return 0
	}
	return m.until - m.now
}

func (m *model) source(now int, a api.Addr) int {
	m.pass(now)
	if i := m.place(a); i >= 0 && !m.sources[i].out {
		return m.sources[i].until - m.now
	}
	return 0
}

func (m *model) next(now int) (int, bool) {
	m.pass(now)
	at, ok := m.until, m.exclude
	for _, x := range m.sources {
		if !x.out && (!ok || x.until < at) {
			at, ok = x.until, true
		}
	}
	if !ok {
		return 0, false
	}
	return at, true
}

// sameStep is whether both are equal in all fields.
func sameStep(a, b api.Step) bool {
	return sameState(a.State, b.State) && slices.Equal(a.Full, b.Full) && slices.Equal(a.Rest, b.Rest) && slices.Equal(a.Ask, b.Ask) && a.Group == b.Group && a.All == b.All
}

func sameState(a, b api.State) bool {
	return a.Exclude == b.Exclude && slices.Equal(a.On, b.On) && slices.Equal(a.Off, b.Off)
}

// pair is a group and its model. Behind each call all that came in and all that came out is overwritten, so that a group that kept a piece of it goes wrong.
type pair struct {
	t    *testing.T
	g    *Group
	m    *model
	junk []list
}

func newPair(t *testing.T, v6 bool) *pair {
	return &pair{t: t, g: New(v6), m: newModel(v6)}
}

// lend is l with spare capacity, in memory of its own, and behind it what it was.
func lend(l list) (list, list) {
	whole := append(slices.Clone(l), source(false, 'X'), source(true, 'Y'), source(false, '1'))
	return whole[:len(l):len(whole)], slices.Clone(whole)
}

// back tells if what was lent has changed, and overwrites it.
func (p *pair) back(l, was list) {
	p.t.Helper()
	if !slices.Equal(l[:cap(l)], was) {
		p.t.Fatalf("from %v to %v", was, l[:cap(l)])
	}
	p.waste(l)
}

// waste overwrites a list, with its spare capacity, by an address that no other one that was wasted has: so it is seen whether two are the same memory, or something writes there later.
func (p *pair) waste(l list) {
	p.t.Helper()
	whole := l[:cap(l)]
	for i := range whole {
		whole[i] = p.mark(len(p.junk))
	}
	p.junk = append(p.junk, whole)
	for n, old := range p.junk {
		for _, a := range old {
			if a != p.mark(n) {
				p.t.Fatalf("what list %d was is now %v", n, a)
			}
		}
	}
}

func (p *pair) mark(n int) api.Addr {
	return api.Addr{V6: true, B: [16]byte{1: byte(n >> 16), 2: byte(n >> 8), 3: byte(n)}}
}

// wasteAll holds all lists of an answer apart.
func (p *pair) wasteAll(all ...list) {
	p.t.Helper()
	was := make([]list, len(all))
	for i, l := range all {
		was[i] = slices.Clone(l)
	}
	for i, l := range all {
		if !slices.Equal(l, was[i]) {
			p.t.Fatalf("list %d is another one's memory", i)
		}
		p.waste(l)
	}
}

func (p *pair) hear(now int, t api.Tune, older int, r api.Record) {
	p.t.Helper()
	want, wantLost := p.m.hear(now, t, older, r)
	l, was := lend(r.Sources)
	step, lost := p.g.Hear(now, t, older, api.Record{Kind: r.Kind, Group: r.Group, Sources: l})
	p.back(l, was)
	if !sameStep(step, want) || lost != wantLost {
		p.t.Fatalf("Hear(%d, %v, %d, %v) = %v, %d, not %v, %d", now, t, older, r, step, lost, want, wantLost)
	}
	p.wasteAll(step.State.On, step.State.Off, step.Full, step.Rest, step.Ask)
}

func (p *pair) query(now int, t api.Tune, l list) {
	p.t.Helper()
	want := p.m.query(now, t, l)
	lent, was := lend(l)
	if got := p.g.Query(now, t, lent); got != want {
		p.t.Fatalf("Query(%d, %v, %v) = %t", now, t, l, got)
	}
	p.back(lent, was)
}

func (p *pair) drop(now int, l list, all bool) {
	p.t.Helper()
	want := p.m.drop(now, l, all)
	lent, was := lend(l)
	if got := p.g.Drop(now, lent, all); got != want {
		p.t.Fatalf("Drop(%d, %v, %t) = %t", now, l, all, got)
	}
	p.back(lent, was)
}

// state tells if the state is another one than the model's.
func (p *pair) state(now int) {
	p.t.Helper()
	p.m.pass(now)
	got, want := p.g.State(now), p.m.state()
	if !sameState(got, want) {
		p.t.Fatalf("State(%d) = %v, not %v", now, got, want)
	}
	p.wasteAll(got.On, got.Off)
}

// others tells if what else a group answers is otherwise than the model has it.
func (p *pair) others(now int, a api.Addr) {
	p.t.Helper()
	if got, want := p.g.Left(now), p.m.left(now); got != want {
		p.t.Fatalf("Left(%d) = %d, not %d", now, got, want)
	}
	if got, want := p.g.Source(now, a), p.m.source(now, a); got != want {
		p.t.Fatalf("Source(%d, %v) = %d, not %d", now, a, got, want)
	}
	if got, want := p.g.Mode(now), p.m.mode(); got != want {
		p.t.Fatalf("Mode(%d) = %d, not %d", now, got, want)
	}
	at, ok := p.g.Next(now)
	if want, is := p.m.next(now); at != want || ok != is {
		p.t.Fatalf("Next(%d) = %d, %t, not %d, %t", now, at, ok, want, is)
	}
}

// all tells if anything that can be asked for is otherwise.
func (p *pair) all(now int) {
	p.t.Helper()
	p.state(now)
	for i := range len(letters) {
		p.others(now, source(p.m.v6, letters[i]))
	}
}

// draw draws what calls are given.
type draw struct {
	*rand.Rand
	v6 bool
	// of is how many sources there are.
	of int
}

func newDraw(r *rand.Rand) draw {
	return draw{r, r.Intn(2) == 0, []int{3, 6, 12, 40, len(letters)}[r.Intn(5)]}
}

// address is most often one of the group's family.
func (d draw) address() api.Addr {
	a := source(d.v6, letters[d.Intn(d.of)])
	switch d.Intn(40) {
	case 0:
		return source(!d.v6, letters[d.Intn(d.of)])
	case 1:
		a.V6 = false
		a.B[4+d.Intn(12)] = 1
	}
	return a
}

func (d draw) list() list {
	var out list
	for range d.Intn(1 + d.Intn(d.of+4)) {
		out = append(out, d.address())
	}
	return out
}

func (d draw) tune() api.Tune {
	return []api.Tune{
		quick(), quick(),
		{Robust: 1, Every: 1, Resp: 1, Last: 1, Count: 1},
		{Robust: 1, Every: 12, Resp: 9, Last: 3, Count: 3},
		{Robust: 3, Every: 7, Resp: 7, Last: 5, Count: 1},
	}[d.Intn(5)]
}

// time is most often soon after now.
func (d draw) time(now int) int {
	switch d.Intn(30) {
	case 0:
		return now - d.Intn(30)
	case 1:
		return -d.Intn(9)
	case 2:
		return now + 20 + d.Intn(20)
	}
	return now + d.Intn(6)
}

func (d draw) kind() int {
	if d.Intn(20) == 0 {
		return []int{math.MinInt, -1, 0, 7, 8, math.MaxInt}[d.Intn(6)]
	}
	return 1 + d.Intn(6)
}

// older is most often 0.
func (d draw) older() int {
	return []int{0, 0, 0, 0, 0, 0, 0, 0, 0, 0, 1, 2, 2, 3, -1}[d.Intn(15)]
}

// TestModel is for P17.1 to P17.3: calls that are drawn, on two groups at once, each beside its model.
func TestModel(t *testing.T) {
	r := rand.New(rand.NewSource(17))
	for range 250 {
		d := newDraw(r)
		pairs := []*pair{newPair(t, d.v6), newPair(t, d.v6)}
		for range 70 {
			p := pairs[r.Intn(2)]
			p.drawn(d)
			pairs[0].all(pairs[0].m.now)
			pairs[1].all(pairs[1].m.now)
		}
	}
}

// TestModelUnseen is for P17.1 to P17.3: the same, where nothing is asked between the calls.
func TestModelUnseen(t *testing.T) {
	r := rand.New(rand.NewSource(18))
	for range 4000 {
		d := newDraw(r)
		p := newPair(t, d.v6)
		for range 1 + r.Intn(12) {
			p.drawn(d)
		}
		p.all(d.time(p.m.now))
	}
}

// drawn makes a call that is drawn.
func (p *pair) drawn(d draw) {
	p.t.Helper()
	now := d.time(p.m.now)
	switch d.Intn(12) {
	case 0, 1:
		p.query(now, d.tune(), d.list())
	case 2:
		p.query(now, d.tune(), nil)
	case 3:
		p.drop(now, d.list(), d.Intn(4) == 0)
	case 4:
		p.state(now)
	case 5:
		p.others(now, d.address())
	default:
		p.hear(now, d.tune(), d.older(), api.Record{Kind: d.kind(), Sources: d.list()})
	}
}

// TestMemory is for the whole: each kind of record in each kind of state; what comes in stays as it was, and what comes out is memory of its own.
func TestMemory(t *testing.T) {
	for _, v6 := range []bool{false, true} {
		for kind := range 8 {
			for older := range 3 {
				for _, names := range []string{"-", "123", "456", "78", "12457", "321", letters[:32], letters} {
					for states := range 3 {
						p := newPair(t, v6)
						p.prepared(states)
						p.state(5)
						p.hear(5, quick(), older, api.Record{Kind: kind, Sources: listed(v6, names)})
						p.state(5)
						p.query(6, quick(), listed(v6, names))
						p.state(7)
						p.state(7)
						p.drop(7, listed(v6, names), states == 2)
						p.state(7)
						p.hear(8, quick(), 0, api.Record{Kind: kind, Sources: listed(v6, "1")})
						p.all(9)
						p.all(27)
						p.all(40)
					}
				}
			}
		}
	}
}

// prepared makes a group without members (0), with some sources (1), or with all but some (2).
func (p *pair) prepared(states int) {
	p.t.Helper()
	if states > 0 {
		p.hear(0, quick(), 0, api.Record{Kind: api.IsIn, Sources: listed(p.m.v6, "123")})
	}
	if states > 1 {
		p.hear(1, quick(), 0, api.Record{Kind: api.IsEx, Sources: listed(p.m.v6, "123456")})
	}
}

// FuzzModel holds rows of calls against the model: four bytes a call: which one, how long after the last one, its sources, and how many of them.
func FuzzModel(f *testing.F) {
	f.Add(false, "\x02\x00\x01\x03\x01\x1a\x02\x02\x08\x01\x00\x00")
	f.Add(true, "\x03\x05\x00\x20\x04\x10\x08\x30\x06\x05\x01\x05\x09\x04\x00\x10")
	f.Add(false, "\x12\x00\x01\x03\x22\x1a\x02\x02\x18\x01\x00\x00\x0a\x01\x03\x03")
	f.Fuzz(func(t *testing.T, v6 bool, calls string) {
		p := newPair(t, v6)
		for i := 0; i+3 < len(calls) && i < 400; i += 4 {
			what, now, from, n := calls[i], p.m.now+int(calls[i+1])-3, int(calls[i+2])%len(letters), int(calls[i+3])
			var l list
			for j := range n % 40 {
				l = append(l, source(v6, letters[(from+7*j)%len(letters)]))
			}
			switch kind := what % 16; kind {
			case 8, 9:
				p.query(now, quick(), l)
			case 10, 11:
				p.drop(now, l, kind == 11)
			case 12:
				p.state(now)
			default:
				p.hear(now, quick(), int(what/16), api.Record{Kind: int(kind), Sources: l})
			}
		}
		p.all(p.m.now)
	})
}
