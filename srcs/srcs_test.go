package srcs

import (
	"math/rand"
	"slices"
	"testing"

	"acequia/addr"
	"acequia/api"
)

// list are addresses.
type list = []api.Addr

// at is the address that the text s stands for.
func at(s string) api.Addr {
	a, err := addr.Parse(s)
	if err != api.OK {
		panic(s)
	}
	return a
}

// ats are the addresses that the texts stand for, in the order in which they stand.
func ats(texts ...string) list {
	var out list
	for _, s := range texts {
		out = append(out, at(s))
	}
	return out
}

// bent is an address without V6 that has the byte b at a place behind its four.
func bent(a api.Addr, place int, b byte) api.Addr {
	a.V6 = false
	a.B[place] = b
	return a
}

// six is the address with V6 that has the bytes of a.
func six(a api.Addr) api.Addr {
	a.V6 = true
	return a
}

// rising are good addresses in increasing order: of both families, with the same first bytes as well, and such that differ in one byte alone.
func rising() list {
	return list{
		addr.Ip4(0, 0, 0, 0), addr.Ip4(9, 255, 255, 255), addr.Ip4(10, 0, 0, 1), addr.Ip4(10, 0, 0, 2), addr.Ip4(10, 0, 1, 0), addr.Ip4(10, 1, 0, 0),
		addr.Ip4(192, 168, 0, 1), addr.Ip4(239, 1, 2, 3), addr.Ip4(255, 255, 255, 255),
		six(addr.Ip4(0, 0, 0, 0)), at("::1"), at("::100"), six(addr.Ip4(10, 0, 0, 1)), at("a00:1::1"), six(addr.Ip4(10, 0, 0, 2)), at("2001:db8::9"), at("fe80::1"), at("ff02::16"), at("ffff:ffff:ffff:ffff:ffff:ffff:ffff:ffff"),
	}
}

// ill are addresses that are not good.
func ill() list {
	var out list
	for place := 4; place < 16; place++ {
		out = append(out, bent(addr.Ip4(10, 0, 0, 1), place, 1), bent(addr.Ip4(0, 0, 0, 0), place, 255))
	}
	return append(out, bent(six(at("::1")), 15, 1))
}

// chosen are those of l whose bit in the number bits is set.
func chosen(l list, bits int) list {
	var out list
	for i, a := range l {
		if bits>>i&1 == 1 {
			out = append(out, a)
		}
	}
	return out
}

// turned is l from its end to its beginning.
func turned(l list) list {
	out := slices.Clone(l)
	slices.Reverse(out)
	return out
}

// roomy is l as a part of a greater list, with addresses in its spare capacity, and a look at whether all of that stayed.
func roomy(l list) (list, func() bool) {
	whole := append(slices.Clone(l), at("1.1.1.1"), at("::f"), api.Addr{B: [16]byte{4: 7}})
	before := slices.Clone(whole)
	return whole[:len(l)], func() bool { return slices.Equal(whole, before) }
}

// drawn is a set of up to that many addresses of the bytes 0 to 3, so that two of them have much in common.
func drawn(r *rand.Rand, most int) list {
	held := map[api.Addr]bool{}
	for range r.Intn(most + 1) {
		held[drawnOne(r)] = true
	}
	return inOrder(held)
}

// drawnOne is an address, of either family.
func drawnOne(r *rand.Rand) api.Addr {
	a := addr.Ip4(byte(r.Intn(2)), 0, byte(r.Intn(2)), byte(r.Intn(4)))
	if a.V6 = r.Intn(2) == 0; a.V6 {
		a.B[4+r.Intn(12)] = byte(r.Intn(3))
	}
	return a
}

// inOrder are the keys of m, each put in behind all that are less.
func inOrder(m map[api.Addr]bool) list {
	var out list
	for a := range m {
		i := 0
		for i < len(out) && less(out[i], a) {
			i++
		}
		out = slices.Insert(out, i, a)
	}
	return out
}

// less is whether a is ahead of b: those of IPv4 first, then by the bytes.
func less(a, b api.Addr) bool {
	if a.V6 != b.V6 {
		return b.V6
	}
	return string(a.B[:]) < string(b.B[:])
}

// isSet is whether l is a set, by looking at all pairs.
func isSet(l list) bool {
	for i, a := range l {
		if !a.V6 && string(a.B[4:]) != "\x00\x00\x00\x00\x00\x00\x00\x00\x00\x00\x00\x00" {
			return false
		}
		for _, b := range l[:i] {
			if !less(b, a) {
				return false
			}
		}
	}
	return true
}

// TestOf is for P11.1: all good addresses of a list, in order and once each.
func TestOf(t *testing.T) {
	a, b, c := at("10.0.0.1"), at("10.0.0.2"), at("10.0.0.3")
	x, y := six(a), at("ff02::16")
	bad, worse := bent(a, 4, 1), bent(c, 15, 255)
	for i, x := range []struct{ l, want list }{
		{nil, nil},
		{list{}, nil},
		{list{a}, list{a}},
		{list{x}, list{x}},
		{list{{}}, list{{}}},
		{list{a, b, c}, list{a, b, c}},
		{list{c, b, a}, list{a, b, c}},
		{list{b, c, a}, list{a, b, c}},
		{list{b, a, c}, list{a, b, c}},
		{list{a, a}, list{a}},
		{list{a, a, a, a}, list{a}},
		{list{b, a, b}, list{a, b}},
		{list{b, a, b, c, c, a, b}, list{a, b, c}},
		{list{x, a}, list{a, x}},
		{list{a, x}, list{a, x}},
		{list{y, x, b, a, x, b}, list{a, b, x, y}},
		{list{bad}, nil},
		{list{bad, worse, bad}, nil},
		{list{bad, b, a}, list{a, b}},
		{list{b, a, bad}, list{a, b}},
		{list{b, bad, a}, list{a, b}},
		{list{bad, b, worse, a, bad, x, a}, list{a, b, x}},
		{list{bad, six(bad)}, list{six(bad)}},
	} {
		if got := Of(x.l...); !slices.Equal(got, x.want) {
			t.Errorf("%d: Of(%v) = %v, not %v", i, x.l, got, x.want)
		}
	}
}

// TestOfIll is for P11.1: no address that is not good gets in, wherever it stands.
func TestOfIll(t *testing.T) {
	all := rising()
	for _, bad := range ill() {
		if got := Of(bad); len(got) > 0 {
			t.Errorf("Of(%v) = %v", bad, got)
		}
		for place := range len(all) + 1 {
			if got := Of(slices.Insert(slices.Clone(all), place, bad)...); !slices.Equal(got, all) {
				t.Errorf("%v at %d: %v", bad, place, got)
			}
		}
		if got := Of(six(bad)); !slices.Equal(got, list{six(bad)}) {
			t.Errorf("Of(%v) = %v", six(bad), got)
		}
	}
}

// TestOfOrder is for P11.1: whatever the order, the set is the same.
func TestOfOrder(t *testing.T) {
	all := rising()
	r := rand.New(rand.NewSource(1))
	for range 500 {
		l := slices.Clone(all)
		for range r.Intn(20) {
			l = append(l, all[r.Intn(len(all))])
		}
		for range r.Intn(3) {
			l = append(l, ill()[r.Intn(len(ill()))])
		}
		r.Shuffle(len(l), func(i, j int) { l[i], l[j] = l[j], l[i] })
		if got := Of(l...); !slices.Equal(got, all) {
			t.Fatalf("Of(%v) = %v", l, got)
		}
	}
	for range 500 {
		held := map[api.Addr]bool{}
		var l list
		for range r.Intn(100) {
			a := drawnOne(r)
			held[a] = true
			l = append(l, a)
		}
		if got := Of(l...); !slices.Equal(got, inOrder(held)) {
			t.Fatalf("Of(%v) = %v", l, got)
		}
	}
}

// TestGood is for P11.1: what a set is.
func TestGood(t *testing.T) {
	a, b, c := at("10.0.0.1"), at("10.0.0.2"), at("10.0.0.3")
	for i, x := range []struct {
		l    list
		want bool
	}{
		{nil, true},
		{list{}, true},
		{list{a}, true},
		{list{{}}, true},
		{list{{V6: true}}, true},
		{list{{}, {V6: true}}, true},
		{list{{V6: true}, {}}, false},
		{list{a, b, c}, true},
		{list{a, six(a)}, true},
		{list{six(a), a}, false},
		{list{six(a), b}, false},
		{list{a, a}, false},
		{list{a, a, b}, false},
		{list{a, b, b}, false},
		{list{a, b, a}, false},
		{list{b, a}, false},
		{list{b, a, c}, false},
		{list{a, c, b}, false},
		{list{c, b, a}, false},
	} {
		if got := Good(x.l); got != x.want {
			t.Errorf("%d: Good(%v) = %v", i, x.l, got)
		}
	}
}

// TestGoodPlaces is for P11.1: an address that is not good, one twice, and two that are turned round make a list no set, at each place.
func TestGoodPlaces(t *testing.T) {
	all := rising()
	if !Good(all) || !isSet(all) {
		t.Fatal("the addresses don't rise")
	}
	for i := range all {
		if !Good(all[i:]) || !Good(all[:i]) || !Good(slices.Delete(slices.Clone(all), i, i+1)) {
			t.Errorf("what is left of a set is none, at %d", i)
		}
		if Good(slices.Insert(slices.Clone(all), i, all[i])) {
			t.Errorf("a set with one twice, at %d", i)
		}
		if i > 0 {
			l := slices.Clone(all)
			l[i-1], l[i] = l[i], l[i-1]
			if Good(l) {
				t.Errorf("a set with two turned round, at %d", i)
			}
		}
		for _, bad := range ill() {
			l := slices.Clone(all)
			l[i] = bad
			if Good(l) || Good(slices.Insert(slices.Clone(all), i, bad)) {
				t.Errorf("a set with %v at %d", bad, i)
			}
		}
	}
	for _, bad := range ill() {
		if Good(list{bad}) || Good(list{{}, bad}) || Good(list{bad, at("ff02::1")}) || Good(append(rising(), bad)) {
			t.Errorf("a set with %v", bad)
		}
	}
}

// TestGoodAll is for P11.1, over all lists of up to four of a few addresses.
func TestGoodAll(t *testing.T) {
	few := list{at("10.0.0.1"), at("10.0.0.2"), six(at("10.0.0.1")), at("ff02::1"), bent(at("10.0.0.1"), 9, 1)}
	var walk func(l list)
	sets := 0
	walk = func(l list) {
		want := isSet(l)
		if got := Good(l); got != want {
			t.Errorf("Good(%v) = %v", l, got)
		}
		if want {
			sets++
		}
		if got := Of(l...); !isSet(got) || Good(l) != slices.Equal(got, l) {
			t.Errorf("Of(%v) = %v", l, got)
		}
		for _, a := range few {
			if len(l) < 4 {
				walk(append(slices.Clone(l), a))
			}
		}
	}
	walk(nil)
	if sets != 16 {
		t.Errorf("%d sets", sets)
	}
}

// TestHas is for P11.1, of sets of each size: every place of the set, and what stands ahead, between and behind.
func TestHas(t *testing.T) {
	all := rising()
	for step := 1; step <= len(all); step++ {
		for from := range step {
			held := map[api.Addr]bool{}
			var l list
			for i := from; i < len(all); i += step {
				l = append(l, all[i])
				held[all[i]] = true
			}
			for _, a := range append(rising(), ill()...) {
				if got := Has(l, a); got != held[a] {
					t.Errorf("Has(%s, %v) = %v", Print(l), a, got)
				}
			}
		}
	}
	for _, a := range append(rising(), ill()...) {
		if Has(nil, a) || Has(list{}, a) {
			t.Errorf("nothing has %v", a)
		}
	}
	if a := at("10.0.0.1"); Has(list{a}, six(a)) || Has(list{six(a)}, a) || !Has(list{a}, a) {
		t.Error("by the bytes alone")
	}
}

// TestPairs is for P11.1, over all pairs of sets of seven addresses: empty ones, the same, without a common one, one within the other, and all others.
func TestPairs(t *testing.T) {
	all := list{at("0.0.0.0"), at("10.0.0.1"), at("10.0.0.2"), at("255.255.255.255"), at("::"), six(at("10.0.0.1")), at("ff02::1")}
	for m := range 1 << len(all) {
		for n := range 1 << len(all) {
			a, b := chosen(all, m), chosen(all, n)
			for _, x := range []struct {
				name string
				got  list
				want int
			}{{"Or", Or(a, b), m | n}, {"And", And(a, b), m & n}, {"Minus", Minus(a, b), m &^ n}} {
				if want := chosen(all, x.want); !slices.Equal(x.got, want) || !Good(x.got) {
					t.Fatalf("%s of %s and %s is %v", x.name, Print(a), Print(b), x.got)
				}
			}
			if got := Same(a, b); got != (m == n) {
				t.Fatalf("Same(%s, %s) = %v", Print(a), Print(b), got)
			}
			if got := Within(a, b); got != (m&^n == 0) {
				t.Fatalf("Within(%s, %s) = %v", Print(a), Print(b), got)
			}
		}
	}
}

// TestSets is for P11.1: the sides of a pair, each named.
func TestSets(t *testing.T) {
	few := ats("10.0.0.2", "10.0.0.4", "::6")
	ends := ats("10.0.0.2", "10.0.0.3", "::6")
	apart := ats("10.0.0.1", "10.0.0.3", "::5", "::7")
	for _, x := range []struct {
		name                        string
		a, b, or, and, minus, other list
	}{
		{"both empty", nil, nil, nil, nil, nil, nil},
		{"both empty lists", list{}, list{}, nil, nil, nil, nil},
		{"left empty", nil, few, few, nil, nil, few},
		{"left an empty list", list{}, few, few, nil, nil, few},
		{"right empty", few, nil, few, nil, few, nil},
		{"right an empty list", few, list{}, few, nil, few, nil},
		{"the same", few, few, few, few, nil, nil},
		{"nothing in common", few, apart, ats("10.0.0.1", "10.0.0.2", "10.0.0.3", "10.0.0.4", "::5", "::6", "::7"), nil, few, apart},
		{"all behind", few, ats("::7", "::8"), ats("10.0.0.2", "10.0.0.4", "::6", "::7", "::8"), nil, few, ats("::7", "::8")},
		{"all ahead", few, ats("1.0.0.0", "10.0.0.1"), ats("1.0.0.0", "10.0.0.1", "10.0.0.2", "10.0.0.4", "::6"), nil, few, ats("1.0.0.0", "10.0.0.1")},
		{"first within", few[:1], few, few, few[:1], nil, few[1:]},
		{"middle within", few[1:2], few, few, few[1:2], nil, ats("10.0.0.2", "::6")},
		{"last within", few[2:], few, few, few[2:], nil, few[:2]},
		{"first and last in common", few, ends, ats("10.0.0.2", "10.0.0.3", "10.0.0.4", "::6"), ats("10.0.0.2", "::6"), ats("10.0.0.4"), ats("10.0.0.3")},
		{"middle in common", few, ats("10.0.0.1", "10.0.0.4", "::7"), ats("10.0.0.1", "10.0.0.2", "10.0.0.4", "::6", "::7"), ats("10.0.0.4"), ats("10.0.0.2", "::6"), ats("10.0.0.1", "::7")},
		{"the same bytes, other families", ats("10.0.0.1"), list{six(at("10.0.0.1"))}, list{at("10.0.0.1"), six(at("10.0.0.1"))}, nil, ats("10.0.0.1"), list{six(at("10.0.0.1"))}},
	} {
		for _, y := range []struct {
			call      string
			got, want list
		}{
			{"Or", Or(x.a, x.b), x.or}, {"Or turned", Or(x.b, x.a), x.or},
			{"And", And(x.a, x.b), x.and}, {"And turned", And(x.b, x.a), x.and},
			{"Minus", Minus(x.a, x.b), x.minus}, {"Minus turned", Minus(x.b, x.a), x.other},
		} {
			if !slices.Equal(y.got, y.want) {
				t.Errorf("%s: %s is %s", x.name, y.call, Print(y.got))
			}
		}
	}
}

// TestSame is for P11.1: one more and one less at each place, and another one there.
func TestSame(t *testing.T) {
	all := rising()
	if !Same(nil, nil) || !Same(nil, list{}) || !Same(list{}, nil) || !Same(all, rising()) {
		t.Error("equal sets aren't the same")
	}
	if Same(all, nil) || Same(nil, all) || Same(list{}, all) || Same(all, list{}) {
		t.Error("the same as the empty set")
	}
	if !Within(nil, nil) || !Within(nil, list{}) || !Within(list{}, nil) || !Within(all, rising()) {
		t.Error("equal sets aren't within each other")
	}
	if Within(all, nil) || Within(all, list{}) || !Within(nil, all) || !Within(list{}, all) {
		t.Error("within the empty set, or that within none")
	}
	for i := range all {
		less := slices.Delete(slices.Clone(all), i, i+1)
		if Same(all, less) || Same(less, all) || !Within(less, all) || Within(all, less) {
			t.Errorf("one less at %d", i)
		}
		if i == 0 {
			continue
		}
		other := slices.Delete(slices.Clone(all), i-1, i)
		if Same(less, other) || Same(other, less) || Within(less, other) || Within(other, less) {
			t.Errorf("another one at %d", i)
		}
	}
	if a := ats("10.0.0.1"); Same(a, list{six(a[0])}) || Within(a, list{six(a[0])}) || Within(list{six(a[0])}, a) {
		t.Error("by the bytes alone")
	}
}

// TestMemory is for P11.1: what comes in stays as it was, with its spare capacity, and what comes out is memory of its own.
func TestMemory(t *testing.T) {
	r := rand.New(rand.NewSource(2))
	for range 300 {
		left, stayed := roomy(drawn(r, 12))
		right, stayedToo := roomy(drawn(r, 12))
		mixed, stayedMixed := roomy(append(turned(left), bent(at("10.0.0.1"), 8, 1)))
		text := Print(left)
		parsed, _ := Parse(text)
		results := []list{Of(mixed...), Of(left...), Or(left, right), And(left, right), Minus(left, right), Or(left, nil), Or(nil, left), And(left, left), Minus(left, nil), parsed}
		Good(left)
		Has(left, at("10.0.0.1"))
		Same(left, right)
		Within(left, right)
		if !stayed() || !stayedToo() || !stayedMixed() {
			t.Fatal("an argument was changed")
		}
		before := make([]list, len(results))
		for i, l := range results {
			before[i] = slices.Clone(l)
		}
		for i, l := range results {
			if !slices.Equal(l, before[i]) {
				t.Fatalf("result %d is another's memory", i)
			}
			for j := range l[:cap(l)] {
				l[:cap(l)][j] = api.Addr{V6: true, B: [16]byte{9, 9}}
			}
		}
		if !stayed() || !stayedToo() || !stayedMixed() || Print(left) != text {
			t.Fatal("a result is an argument's memory")
		}
	}
}

// TestAnyLists is for the whole: lists that are no sets don't make a call panic, and stay as they were.
func TestAnyLists(t *testing.T) {
	r := rand.New(rand.NewSource(3))
	any := append(rising(), ill()...)
	for range 500 {
		var a, b list
		for range r.Intn(12) {
			a = append(a, any[r.Intn(len(any))])
			b = append(b, any[r.Intn(len(any))])
		}
		a, stayed := roomy(a)
		b, stayedToo := roomy(b)
		Has(a, any[r.Intn(len(any))])
		Or(a, b)
		And(a, b)
		Minus(a, b)
		Same(a, b)
		Within(a, b)
		Print(a)
		if !stayed() || !stayedToo() {
			t.Fatal("an argument was changed")
		}
	}
}

// TestProperties is for P11.3, over sets that are drawn.
func TestProperties(t *testing.T) {
	r := rand.New(rand.NewSource(4))
	for range 3000 {
		a, b := drawn(r, 30), drawn(r, 30)
		if !Good(a) || !Same(a, Of(turned(a)...)) {
			t.Fatalf("%v is no set", a)
		}
		both, rest := And(a, b), Minus(a, b)
		if got := Or(both, rest); !Same(got, a) || !slices.Equal(got, a) {
			t.Fatalf("%s isn't the union of %s and %s", Print(a), Print(both), Print(rest))
		}
		if got, back := Or(a, b), Or(b, a); !Same(got, back) || !slices.Equal(got, back) || !Within(a, got) || !Within(b, got) {
			t.Fatalf("%s and %s, %s and %s", Print(a), Print(b), Print(got), Print(back))
		}
		if len(And(both, rest)) > 0 || !Within(both, b) || !Within(both, a) || !Within(rest, a) || len(And(rest, b)) > 0 {
			t.Fatalf("%s and %s of %s and %s", Print(both), Print(rest), Print(a), Print(b))
		}
		if got, err := Parse(Print(a)); err != api.OK || !Same(got, a) || !slices.Equal(got, a) {
			t.Fatalf("Parse of Print of %v is %v, %d", a, got, err)
		}
		for _, x := range a {
			if !Has(a, x) || Has(rest, x) == Has(b, x) || Has(both, x) != Has(b, x) {
				t.Fatalf("%s of %s and %s", addr.Print(x), Print(a), Print(b))
			}
		}
	}
}

// TestLarge is for P11.1, with sets far above what a group may have.
func TestLarge(t *testing.T) {
	var all, even, odd list
	for i := range 1 << 17 {
		a := addr.Ip4(10, byte(i>>16), byte(i>>8), byte(i))
		all = append(all, a)
		if i%2 == 0 {
			even = append(even, a)
		} else {
			odd = append(odd, a)
		}
	}
	if !Good(all) || !slices.Equal(Of(append(turned(odd), turned(even)...)...), all) || !slices.Equal(Or(odd, even), all) {
		t.Error("the union of all")
	}
	if len(And(odd, even)) > 0 || !slices.Equal(Minus(all, odd), even) || !slices.Equal(And(even, all), even) || !Within(odd, all) || Within(all, odd) || Same(odd, even) {
		t.Error("the parts of all")
	}
	if got, err := Parse(Print(all)); err != api.OK || !slices.Equal(got, all) {
		t.Error("the text of all")
	}
}

// TestExample is the one of the chapter.
func TestExample(t *testing.T) {
	l := Of(addr.Ip4(10, 0, 0, 2), addr.Ip4(10, 0, 0, 1), addr.Ip4(10, 0, 0, 2))
	if got := Print(l); got != "10.0.0.1,10.0.0.2" || len(l) != 2 {
		t.Errorf("%s", got)
	}
}
