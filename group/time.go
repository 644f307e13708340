package group

import (
	"acequia/addr"
	"acequia/api"
	"acequia/compat"
	"acequia/filter"
	"acequia/srcs"
)

// pass lets the time go on to now, and what is due by then expire; it never goes back, and starts from 0.
func (g *Group) pass(now int) {
	g.now = max(g.now, min(now, api.MaxTime))
	for _, key := range g.deadlines.Pop(g.now) {
		g.state = expired(g.state, key)
	}
}

// expired is the state s behind the deadline of that key.
func expired(s api.State, key string) api.State {
	if key == groupKey {
		return filter.Turn(s)
	}
	a, _ := addr.Read(key[len(sourceMark):])
	return filter.Expire(s, []api.Addr{a})
}

// meet keeps that a host of the version older counts as present until that time. With V6 there is one older version alone.
func (g *Group) meet(older, until int) {
	switch {
	case older == 1:
		g.one = until
	case older == 2 && !g.v6:
		g.two = until
	}
}

// mode is the mode at the time of the group.
func (g *Group) mode() int {
	return compat.Mode(g.v6, g.now, g.one, g.two)
}

// take keeps the state that a record came to, and sets the deadlines that it asks for: member is a membership's.
func (g *Group) take(step api.Step, member int) {
	// The group's deadline as it was must be read before it is set.
	rest, _ := g.deadlines.At(groupKey)
	for _, key := range keysOf(srcs.Minus(g.state.On, step.State.On)) {
		g.deadlines.Cut(key)
	}
	for _, key := range keysOf(step.Full) {
		g.deadlines.Set(key, member)
	}
	for _, key := range keysOf(step.Rest) {
		g.deadlines.Set(key, rest)
	}
	if step.Group {
		g.deadlines.Set(groupKey, member)
	}
	g.state = step.State
}

// shorten sets the deadlines of those keys that have later ones to at, and is whether there were any. Of all sources just those of On have deadlines, so no other key counts.
func (g *Group) shorten(at int, keys ...string) bool {
	changed := false
	for _, key := range keys {
		if old, ok := g.deadlines.At(key); ok && old > at {
			g.deadlines.Set(key, at)
			changed = true
		}
	}
	return changed
}

// left is how many ticks there are to the deadline of that key, and 0 if it has none.
func (g *Group) left(key string) int {
	at, ok := g.deadlines.At(key)
	if !ok {
		return 0
	}
	return at - g.now
}

// keyOf is the one of a good source's deadline.
func keyOf(a api.Addr) string {
	return sourceMark + addr.Bytes(a)
}

// keysOf are those of the sources of l.
func keysOf(l []api.Addr) []string {
	var out []string
	for _, a := range l {
		out = append(out, keyOf(a))
	}
	return out
}
