package ip6

import (
	"acequia/api"
	"acequia/octet"
)

const (
	// The options are what is next, how many units they take beside the first one, and a list of them.
	optionUnit = 8
	optionHead = 2
	// An option is its kind, its length, and what it tells; the kind 0 stands alone.
	kindPad   = 0
	kindAlert = 5
	alertTold = "\x00\x00"
	// One unit: no more of them, a Router Alert, and an option that fills the rest.
	alertUnit = "\x00\x05\x02" + alertTold + "\x01\x00"
	// The two highest bits of a kind tell what one does who doesn't know it: pass over it, if they are 0.
	actFrom = 6
)

// Options is whether there is a Router Alert in the list s of options.
func Options(s string) (bool, api.Errno) {
	alert := false
	for r := octet.New(s); r.Left() > 0; {
		kind := r.Num(1)
		if kind == kindPad {
			continue
		}
		told := r.Take(int(r.Num(1)))
		switch {
		case r.Bad():
			return false, api.ErrForm
		case kind>>actFrom != 0:
			return false, api.ErrKind
		}
		alert = alert || kind == kindAlert && told == alertTold
	}
	return alert, api.OK
}

// options is the bytes of the options that p is written with.
func options(p api.Ip6) string {
	if p.Alert {
		return put(p.Next, 1) + alertUnit
	}
	return ""
}

// readOptions is p with the options at the beginning of its Body read, and taken away.
func readOptions(p api.Ip6) (api.Ip6, api.Errno) {
	r := octet.New(p.Body)
	next, more := int(r.Num(1)), int(r.Num(1))
	list := r.Take(optionUnit*(more+1) - optionHead)
	if r.Bad() {
		return api.Ip6{}, api.ErrForm
	}
	alert, err := Options(list)
	switch {
	case err != api.OK:
		return api.Ip6{}, err
	case next == nextOptions:
		return api.Ip6{}, api.ErrForm
	}
	p.Next, p.Alert, p.Body = next, alert, r.Rest()
	return p, api.OK
}
