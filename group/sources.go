package group

import (
	"acequia/api"
	"acequia/srcs"
)

// candidates is the set of those of l that can be sources of the group: good addresses of its family.
func (g *Group) candidates(l []api.Addr) []api.Addr {
	var out []api.Addr
	for _, a := range srcs.Of(l...) {
		if a.V6 == g.v6 {
			out = append(out, a)
		}
	}
	return out
}

// fitting is what of the set l a record of that kind can use: all that are kept already, and the first of the others, as many as there is room for.
func (g *Group) fitting(kind int, l []api.Addr) []api.Addr {
	if kind == api.Block && !g.state.Exclude {
		// Nothing of it is kept.
		return l
	}
	kept := srcs.Or(g.state.On, g.state.Off)
	others := srcs.Minus(l, kept)
	room := min(api.MaxKept-len(kept), len(others))
	return srcs.Minus(l, others[room:])
}

// copied is s with lists of its own.
func copied(s api.State) api.State {
	return api.State{Exclude: s.Exclude, On: own(s.On), Off: own(s.Off)}
}

// own is l in memory of its own.
func own(l []api.Addr) []api.Addr {
	return append([]api.Addr(nil), l...)
}
