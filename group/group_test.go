package group

import (
	"math"
	"strconv"
	"strings"
	"testing"

	"acequia/addr"
	"acequia/api"
	"acequia/tune"
)

// list are addresses.
type list = []api.Addr

// letters stand for sources, in their order.
const letters = "0123456789abcdefghijklmnopqrstuvwxyzABCDEFGHIJKLMNOPQRSTUVWXYZ"

// source is the address that a letter stands for, of either family.
func source(v6 bool, letter byte) api.Addr {
	n := byte(strings.IndexByte(letters, letter))
	if v6 {
		return api.Addr{V6: true, B: [16]byte{0: 0xfd, 14: n / 7, 15: n % 7}}
	}
	return addr.Ip4(10, 0, n/7, n%7)
}

// listed are the addresses that the letters of s stand for, in the order in which they stand; - is none.
func listed(v6 bool, s string) list {
	var out list
	for i := range len(s) {
		if s[i] != '-' {
			out = append(out, source(v6, s[i]))
		}
	}
	return out
}

// lettered is the opposite of listed; what no letter stands for is a question mark.
func lettered(v6 bool, l list) string {
	out := ""
	for _, a := range l {
		letter := "?"
		for i := range len(letters) {
			if a == source(v6, letters[i]) {
				letter = letters[i : i+1]
			}
		}
		out += letter
	}
	return out
}

// quick are parameters of which a membership lasts 26 ticks, and the last one 4.
func quick() api.Tune {
	return api.Tune{Robust: 2, Every: 10, Resp: 6, Last: 2, Count: 2}
}

// kinds are the names of the kinds of records.
func kinds() []string {
	return []string{"kind0", "isin", "isex", "toin", "toex", "allow", "block", "kind7"}
}

// stated is s as a text: only[12], or except[12]off[34].
func stated(v6 bool, s api.State) string {
	if s.Exclude {
		return "except[" + lettered(v6, s.On) + "]off[" + lettered(v6, s.Off) + "]"
	}
	if len(s.Off) > 0 {
		return "only[" + lettered(v6, s.On) + "] and off[" + lettered(v6, s.Off) + "]"
	}
	return "only[" + lettered(v6, s.On) + "]"
}

// told is what Hear answered as a text, without what is zero.
func told(v6 bool, x api.Step, lost int) string {
	out := stated(v6, x.State)
	for _, part := range []struct {
		name string
		l    list
	}{{"full", x.Full}, {"rest", x.Rest}, {"ask", x.Ask}} {
		if len(part.l) > 0 {
			out += " " + part.name + "[" + lettered(v6, part.l) + "]"
		}
	}
	if x.Group {
		out += " group"
	}
	if x.All {
		out += " all"
	}
	if lost != 0 {
		out += " lost " + strconv.Itoa(lost)
	}
	return out
}

// seen is all that a group tells at a time, as a text: its state with the ticks that each source has left, those of the group itself, its mode, and what comes next: except[1:26 2:3]off[34] left 26 mode 3 next 40.
func seen(g *Group, v6 bool, now int) string {
	s := g.State(now)
	ticks := ""
	for i := range len(letters) {
		a, on := source(v6, letters[i]), false
		for _, x := range s.On {
			on = on || x == a
		}
		if n := g.Source(now, a); n != 0 || on {
			ticks += " " + letters[i:i+1] + ":" + strconv.Itoa(n)
		}
	}
	on := lettered(v6, s.On)
	out := strings.Replace(stated(v6, s), "["+on+"]", "["+strings.TrimSpace(ticks)+"]", 1)
	if n := g.Left(now); n != 0 || s.Exclude {
		out += " left " + strconv.Itoa(n)
	}
	out += " mode " + strconv.Itoa(g.Mode(now))
	if at, ok := g.Next(now); ok {
		out += " next " + strconv.Itoa(at)
	} else if at != 0 {
		out += " next, though there is none, " + strconv.Itoa(at)
	}
	return out
}

// run makes the calls of a text one after another, and is what the last of them answered. Each one is a time, the kind of a record (behind a / the version of an older host), query, drop (behind a + if all is set), or see, and letters of sources, or -.
func run(t *testing.T, g *Group, v6 bool, text string) string {
	t.Helper()
	out := ""
	for line := range strings.SplitSeq(text, ";") {
		words := strings.Fields(line)
		if len(words) == 0 {
			continue
		}
		now, err := strconv.Atoi(words[0])
		if err != nil {
			t.Fatalf("no time in %q", line)
		}
		out = call(t, g, v6, now, words[1], words[2])
	}
	return out
}

func call(t *testing.T, g *Group, v6 bool, now int, what, names string) string {
	t.Helper()
	l := listed(v6, names)
	switch what {
	case "query":
		return strconv.FormatBool(g.Query(now, quick(), l))
	case "drop":
		return strconv.FormatBool(g.Drop(now, l, false))
	case "drop+":
		return strconv.FormatBool(g.Drop(now, l, true))
	case "see":
		return seen(g, v6, now)
	}
	name, older, _ := strings.Cut(what, "/")
	for kind, known := range kinds() {
		if name == known {
			version, _ := strconv.Atoi(older)
			step, lost := g.Hear(now, quick(), version, api.Record{Kind: kind, Sources: l})
			return told(v6, step, lost)
		}
	}
	t.Fatalf("no call %q", what)
	return ""
}

// row is what the last call of a text should answer.
type row struct{ calls, want string }

// both tries rows of IPv4 with IPv6 as well, where the latest version is 2.
func both(t *testing.T, rows []row) {
	t.Helper()
	for _, v6 := range []bool{false, true} {
		for _, x := range rows {
			want := x.want
			if v6 {
				want = strings.Replace(want, "mode 3", "mode 2", 1)
			}
			if got := run(t, New(v6), v6, x.calls); got != want {
				t.Errorf("V6 %t, %s:\n   %s\nnot %s", v6, x.calls, got, want)
			}
		}
	}
}

// TestExample is the one of the chapter.
func TestExample(t *testing.T) {
	g := New(false)
	parameters := quick()
	if got := tune.Member(parameters); got != 26 {
		t.Fatalf("a membership lasts %d", got)
	}
	g.Hear(0, parameters, 0, api.Record{Kind: api.IsEx, Group: addr.Ip4(239, 1, 1, 1)})
	for _, x := range []struct{ now, left int }{{0, 26}, {25, 1}} {
		if got := g.Left(x.now); got != x.left {
			t.Errorf("Left(%d) = %d, not %d", x.now, got, x.left)
		}
		if !g.State(x.now).Exclude {
			t.Errorf("at %d it is gone", x.now)
		}
	}
	if s := g.State(26); s.Exclude || len(s.On)+len(s.Off) > 0 || g.Left(26) != 0 {
		t.Errorf("at 26: %v", s)
	}
}

// TestNew is for P17.1: a group without members.
func TestNew(t *testing.T) {
	both(t, []row{
		{"0 see -", "only[] mode 3"},
		{"100 see -", "only[] mode 3"},
		{"-5 see -", "only[] mode 3"},
	})
}

// TestExpire is for P17.1: what expires at the tick before a deadline, at the deadline, and behind it, all in one call or one after another.
func TestExpire(t *testing.T) {
	const (
		// 1, 2 and 3 expire at 26, 27 and 28, the group itself at 29.
		rising = "0 isin 1; 1 isin 2; 2 isin 3; 3 isex 1234;"
		// The group itself expires at 26; of its sources 1 and 2 before it, at 4 and 5, 3 at 26 like it, and 4 and 5 behind it, at 27.
		middle = "0 isex -; 0 isin 123; 0 query 1; 1 isin 45; 1 query 2;"
		only   = "0 isin 1; 1 isin 23;"
	)
	both(t, []row{
		// The least of the deadlines, one at a time.
		{rising + "25 see -", "except[1:1 2:2 3:3]off[4] left 4 mode 3 next 26"},
		{rising + "25 see -; 26 see -", "except[2:1 3:2]off[14] left 3 mode 3 next 27"},
		{rising + "25 see -; 26 see -; 27 see -", "except[3:1]off[124] left 2 mode 3 next 28"},
		{rising + "26 see -; 27 see -; 28 see -", "except[]off[1234] left 1 mode 3 next 29"},
		{rising + "26 see -; 27 see -; 28 see -; 29 see -", "only[] mode 3"},
		{rising + "26 see -; 27 see -; 28 see -; 29 see -; 30 see -", "only[] mode 3"},
		// Several of them in one call.
		{rising + "26 see -", "except[2:1 3:2]off[14] left 3 mode 3 next 27"},
		{rising + "27 see -", "except[3:1]off[124] left 2 mode 3 next 28"},
		{rising + "28 see -", "except[]off[1234] left 1 mode 3 next 29"},
		{rising + "29 see -", "only[] mode 3"},
		{rising + "30 see -", "only[] mode 3"},
		{rising + "1000000000000 see -", "only[] mode 3"},
		// The group itself between its sources: those that are left stay, and are let through alone.
		{middle + "3 see -", "except[1:1 2:2 3:23 4:24 5:24]off[] left 23 mode 3 next 4"},
		{middle + "4 see -", "except[2:1 3:22 4:23 5:23]off[1] left 22 mode 3 next 5"},
		{middle + "5 see -", "except[3:21 4:22 5:22]off[12] left 21 mode 3 next 26"},
		{middle + "25 see -", "except[3:1 4:2 5:2]off[12] left 1 mode 3 next 26"},
		{middle + "26 see -", "only[4:1 5:1] mode 3 next 27"},
		{middle + "5 see -; 25 see -; 26 see -", "only[4:1 5:1] mode 3 next 27"},
		{middle + "27 see -", "only[] mode 3"},
		{middle + "26 see -; 27 see -", "only[] mode 3"},
		// All at the same time: sources go before the group.
		{"0 isex -; 0 isin 12; 25 see -", "except[1:1 2:1]off[] left 1 mode 3 next 26"},
		{"0 isex -; 0 isin 12; 26 see -", "only[] mode 3"},
		{"0 isin 12; 0 isex 123; 26 see -", "only[] mode 3"},
		// The group itself, with none in On.
		{"0 isex -; 25 see -", "except[]off[] left 1 mode 3 next 26"},
		{"0 isex -; 26 see -", "only[] mode 3"},
		{"0 isex 12; 25 see -", "except[]off[12] left 1 mode 3 next 26"},
		{"0 isex 12; 26 see -", "only[] mode 3"},
		{"0 isex 12; 27 see -", "only[] mode 3"},
		// Without Exclude they are removed.
		{only + "25 see -", "only[1:1 2:2 3:2] mode 3 next 26"},
		{only + "26 see -", "only[2:1 3:1] mode 3 next 27"},
		{only + "27 see -", "only[] mode 3"},
		{only + "26 see -; 27 see -", "only[] mode 3"},
		{only + "28 see -", "only[] mode 3"},
		// What expired comes back, and is new.
		{only + "26 isin 1; 26 see -", "only[1:26 2:1 3:1] mode 3 next 27"},
		{rising + "29 isex 2; 29 see -", "except[]off[2] left 26 mode 3 next 55"},
		{middle + "26 isex 14; 26 see -", "except[4:1]off[1] left 26 mode 3 next 27"},
	})
}

// TestExpireFirst is for P17.1: whatever the call is, what is due expires ahead of it.
func TestExpireFirst(t *testing.T) {
	const two = "0 isin 1; 1 isin 2; 2 isex 123;"
	both(t, []row{
		{two + "26 kind0 -", "except[2]off[13]"},
		{two + "26 block 1", "except[2]off[13]"},
		{two + "26 toex 12", "except[2]off[1] ask[2] group"},
		{two + "26 isin 1", "except[12]off[3] full[1]"},
		{two + "28 isin 1", "only[1] full[1]"},
		{two + "28 isex 1", "except[]off[1] group"},
		{two + "28 toin 1", "only[1] full[1]"},
		{two + "26 query 1", "false"},
		{two + "25 query 1", "false"},
		{two + "20 query 1", "true"},
		{two + "28 query -", "false"},
		{two + "26 drop 1", "false"},
		{two + "25 drop 1", "true"},
		{two + "27 drop 12", "false"},
		{two + "28 drop+ -", "false"},
		{two + "27 drop+ -", "true"},
	})
	for _, v6 := range []bool{false, true} {
		for _, x := range []struct{ now, left, next, off int }{{26, 2, 27, 2}, {27, 1, 28, 3}, {28, 0, 0, 0}, {29, 0, 0, 0}} {
			// Each of the calls that ask is the first one at that time.
			if got := during(t, v6).Left(x.now); got != x.left {
				t.Errorf("Left(%d) = %d", x.now, got)
			}
			if got := during(t, v6).Source(x.now, source(v6, '1')); got != 0 {
				t.Errorf("Source(%d, 1) = %d", x.now, got)
			}
			if got := during(t, v6).Source(x.now, source(v6, '2')); got != max(0, 27-x.now) {
				t.Errorf("Source(%d, 2) = %d", x.now, got)
			}
			if got, ok := during(t, v6).Next(x.now); got != x.next || ok != (x.next > 0) {
				t.Errorf("Next(%d) = %d, %t", x.now, got, ok)
			}
			if got := during(t, v6).State(x.now); got.Exclude != (x.left > 0) || len(got.On) != max(0, 27-x.now) || len(got.Off) != x.off {
				t.Errorf("State(%d) = %v", x.now, got)
			}
		}
	}
}

// during is a group of which 1 expires at 26, 2 at 27, and the group itself at 28.
func during(t *testing.T, v6 bool) *Group {
	t.Helper()
	g := New(v6)
	run(t, g, v6, "0 isin 1; 1 isin 2; 2 isex 123")
	return g
}

// TestAsk is for P17.1: Left, Source, Mode and Next with and without Exclude, of sources of On, of Off and of neither.
func TestAsk(t *testing.T) {
	both(t, []row{
		{"5 isin 12; 6 see -", "only[1:25 2:25] mode 3 next 31"},
		{"5 isin 12; 6 isin 2; 6 see -", "only[1:25 2:26] mode 3 next 31"},
		{"5 isin 12; 6 isin 1; 6 see -", "only[1:26 2:25] mode 3 next 31"},
		{"5 isex 12; 6 see -", "except[]off[12] left 25 mode 3 next 31"},
		{"5 isex 12; 6 isin 2; 6 see -", "except[2:26]off[1] left 25 mode 3 next 31"},
		{"5 isex 12; 6 isin 2; 7 isex 12; 7 see -", "except[2:25]off[1] left 26 mode 3 next 32"},
		{"5 isex -; 6 see -", "except[]off[] left 25 mode 3 next 31"},
		{"5 block 12; 6 see -", "only[] mode 3"},
	})
	for _, v6 := range []bool{false, true} {
		g := New(v6)
		run(t, g, v6, "5 isin 12; 6 isex 123")
		bent := source(false, '1')
		bent.B[9] = 1
		for _, a := range []api.Addr{source(v6, '3'), source(v6, '4'), source(!v6, '1'), {}, {V6: true}, bent} {
			if got := g.Source(7, a); got != 0 {
				t.Errorf("Source(7, %v) = %d", a, got)
			}
		}
		if got := g.Source(7, source(v6, '1')); got != 24 {
			t.Errorf("Source(7, 1) = %d", got)
		}
	}
}

// TestZeroSource is for P17.1: an address of zeros is a source as any other, and none of the other family's.
func TestZeroSource(t *testing.T) {
	for _, v6 := range []bool{false, true} {
		g, zero := New(v6), api.Addr{V6: v6}
		g.Hear(0, quick(), 0, api.Record{Kind: api.IsEx})
		g.Hear(1, quick(), 0, api.Record{Kind: api.IsIn, Sources: list{zero}})
		if got := g.Source(2, zero); got != 25 {
			t.Errorf("Source(2, zero) = %d", got)
		}
		if got := g.Source(2, api.Addr{V6: !v6}); got != 0 {
			t.Errorf("Source(2, the other zero) = %d", got)
		}
		if s := g.State(26); s.Exclude || len(s.On) != 1 || s.On[0] != zero {
			t.Errorf("at 26: %v", s)
		}
		if s := g.State(27); len(s.On) != 0 {
			t.Errorf("at 27: %v", s)
		}
	}
}

// TestMode is for P17.1 and P17.2: for how long hosts of older versions count as present, with each number of a version.
func TestMode(t *testing.T) {
	for _, x := range []struct {
		older, mode4, mode6 int
	}{{0, 3, 2}, {1, 1, 1}, {2, 2, 2}, {3, 3, 2}, {4, 3, 2}, {-1, 3, 2}, {-2, 3, 2}, {257, 3, 2}, {math.MinInt, 3, 2}, {math.MaxInt, 3, 2}} {
		for _, v6 := range []bool{false, true} {
			want, last := x.mode4, 3
			if v6 {
				want, last = x.mode6, 2
			}
			g := New(v6)
			if got := g.Mode(4); got != last {
				t.Errorf("of a new group: %d", got)
			}
			g.Hear(5, quick(), x.older, api.Record{Kind: api.IsEx})
			for _, now := range []int{5, 6, 30} {
				if got := g.Mode(now); got != want {
					t.Errorf("V6 %t, older %d: Mode(%d) = %d, not %d", v6, x.older, now, got, want)
				}
			}
			for _, now := range []int{31, 32} {
				if got := g.Mode(now); got != last {
					t.Errorf("V6 %t, older %d: Mode(%d) = %d, not %d", v6, x.older, now, got, last)
				}
			}
		}
	}
}

// TestModes is for P17.1 and P17.2: hosts of both older versions, one after the other. They are no deadlines for Next, and a group that is gone has them still.
func TestModes(t *testing.T) {
	for _, x := range []struct {
		v6 bool
		row
	}{
		{false, row{"0 isex/2 -; 0 see -", "except[]off[] left 26 mode 2 next 26"}},
		{false, row{"0 isex/1 -; 0 see -", "except[]off[] left 26 mode 1 next 26"}},
		{true, row{"0 isex/1 -; 0 see -", "except[]off[] left 26 mode 1 next 26"}},
		{true, row{"0 isex/2 -; 0 see -", "except[]off[] left 26 mode 2 next 26"}},
		{false, row{"0 isin/2 -; 0 see -", "only[] mode 2"}},
		{false, row{"0 isin/1 -; 0 see -", "only[] mode 1"}},
		{true, row{"0 isin/1 -; 0 see -", "only[] mode 1"}},
		{false, row{"0 isin/2 -; 25 see -", "only[] mode 2"}},
		{false, row{"0 isin/2 -; 26 see -", "only[] mode 3"}},
		{true, row{"0 isin/1 -; 25 see -", "only[] mode 1"}},
		{true, row{"0 isin/1 -; 26 see -", "only[] mode 2"}},
		// Both: the oldest decides while it is there.
		{false, row{"0 isex/1 -; 5 isex/2 -; 25 see -", "except[]off[] left 6 mode 1 next 31"}},
		{false, row{"0 isex/1 -; 5 isex/2 -; 26 see -", "except[]off[] left 5 mode 2 next 31"}},
		{false, row{"0 isex/1 -; 5 isex/2 -; 30 see -", "except[]off[] left 1 mode 2 next 31"}},
		{false, row{"0 isex/1 -; 5 isex/2 -; 31 see -", "only[] mode 3"}},
		{false, row{"0 isex/2 -; 5 isex/1 -; 30 see -", "except[]off[] left 1 mode 1 next 31"}},
		{false, row{"0 isex/2 -; 5 isex/1 -; 31 see -", "only[] mode 3"}},
		// With V6 there is no older version 2.
		{true, row{"0 isex/1 -; 5 isex/2 -; 25 see -", "except[]off[] left 6 mode 1 next 31"}},
		{true, row{"0 isex/1 -; 5 isex/2 -; 26 see -", "except[]off[] left 5 mode 2 next 31"}},
		// A host that is heard again counts again from then on; one of the latest version changes nothing.
		{false, row{"0 isex/2 -; 5 isex/2 -; 30 see -", "except[]off[] left 1 mode 2 next 31"}},
		{false, row{"0 isex/1 -; 5 isex -; 25 see -", "except[]off[] left 6 mode 1 next 31"}},
		{false, row{"0 isex/1 -; 5 isex -; 26 see -", "except[]off[] left 5 mode 3 next 31"}},
		{false, row{"0 isex/1 -; 30 isex/1 -; 30 see -", "except[]off[] left 26 mode 1 next 56"}},
		// So does one whose record does not count.
		{false, row{"0 isex/1 -; 5 block/1 1; 30 see -", "only[] mode 1"}},
		{false, row{"0 isex/2 -; 5 block/2 1; 30 see -", "only[] mode 2"}},
		{false, row{"0 isex/2 -; 5 kind7/2 1; 30 see -", "only[] mode 2"}},
		{false, row{"0 isex/2 -; 5 block/2 1; 31 see -", "only[] mode 3"}},
		// Neither Query nor Drop changes the mode.
		{false, row{"0 isex/1 -; 5 query -; 25 see -", "only[] mode 1"}},
		{false, row{"0 isex/1 -; 5 drop+ -; 25 see -", "only[] mode 1"}},
		{false, row{"0 isex/2 -; 5 drop+ -; 25 see -", "only[] mode 2"}},
	} {
		if got := run(t, New(x.v6), x.v6, x.calls); got != x.want {
			t.Errorf("V6 %t, %s:\n   %s\nnot %s", x.v6, x.calls, got, x.want)
		}
	}
}

// TestModeShorter is for P17.2: the time for which an older host counts is that of the last one heard, even if it is the shorter one.
func TestModeShorter(t *testing.T) {
	g := New(false)
	g.Hear(0, tune.Usual(), 2, api.Record{Kind: api.IsIn})
	if got := g.Mode(2599); got != 2 {
		t.Errorf("Mode(2599) = %d", got)
	}
	g = New(false)
	g.Hear(0, tune.Usual(), 2, api.Record{Kind: api.IsIn})
	g.Hear(0, quick(), 2, api.Record{Kind: api.IsIn})
	if g.Mode(25) != 2 || g.Mode(26) != 3 {
		t.Errorf("it counts for longer than the last one")
	}
}

// TestNow is for P17.1: times below 0, above the greatest one, and less than that of an earlier call.
func TestNow(t *testing.T) {
	both(t, []row{
		{"-7 isex -; -9 see -", "except[]off[] left 26 mode 3 next 26"},
		{"-9223372036854775808 isex -; 0 see -", "except[]off[] left 26 mode 3 next 26"},
		{"-9223372036854775808 isex -; 25 see -", "except[]off[] left 1 mode 3 next 26"},
		{"-9223372036854775808 isex -; 26 see -", "only[] mode 3"},
		{"999999999999 isex -; 999999999999 see -", "except[]off[] left 26 mode 3 next 1000000000025"},
		{"999999999999 isex -; 1000000000000 see -", "except[]off[] left 25 mode 3 next 1000000000025"},
		{"999999999999 isex -; 1000000000001 see -", "except[]off[] left 25 mode 3 next 1000000000025"},
		{"1000000000000 isex -; 1000000000026 see -", "except[]off[] left 26 mode 3 next 1000000000026"},
		{"1000000000001 isex -; 9223372036854775807 see -", "except[]off[] left 26 mode 3 next 1000000000026"},
		{"9223372036854775807 isex -; 0 see -", "except[]off[] left 26 mode 3 next 1000000000026"},
		{"9223372036854775807 isin 1; 0 query 1; 0 see -", "only[1:4] mode 3 next 1000000000004"},
		{"999999999974 isex -; 999999999999 see -", "except[]off[] left 1 mode 3 next 1000000000000"},
		{"999999999974 isex -; 9223372036854775807 see -", "only[] mode 3"},
		{"999999999975 isex -; 9223372036854775807 see -", "except[]off[] left 1 mode 3 next 1000000000001"},
		// Less than that of an earlier call.
		{"10 isex -; 5 see -", "except[]off[] left 26 mode 3 next 36"},
		{"10 isex -; 5 isex -; 0 see -", "except[]off[] left 26 mode 3 next 36"},
		{"10 isin 1; 9 isex 1; -1 isin 2; 0 see -", "except[1:26 2:26]off[] left 26 mode 3 next 36"},
		{"0 isex -; 10 see -; 5 isex -; 5 see -", "except[]off[] left 26 mode 3 next 36"},
		{"0 isex -; 10 query 1; 5 isex -; 5 see -", "except[]off[] left 26 mode 3 next 36"},
		{"0 isex -; 10 drop 1; 5 isex -; 5 see -", "except[]off[] left 26 mode 3 next 36"},
		{"0 isex -; 10 query 1; 5 query -; 5 see -", "except[]off[] left 4 mode 3 next 14"},
		{"0 isex -; 26 drop 1; 25 drop+ -", "false"},
		{"0 isex -; 25 drop 1; 25 drop+ -", "true"},
		{"0 isex -; 26 see -; 25 see -", "only[] mode 3"},
	})
}

// TestNowOfEach is for P17.1: each call lets the time go on, one that is rejected too, or that has no effect.
func TestNowOfEach(t *testing.T) {
	for _, v6 := range []bool{false, true} {
		for i, at10 := range []func(g *Group){
			func(g *Group) { g.State(10) },
			func(g *Group) { g.Left(10) },
			func(g *Group) { g.Source(10, source(v6, '1')) },
			func(g *Group) { g.Source(10, api.Addr{B: [16]byte{7: 1}}) },
			func(g *Group) { g.Source(10, source(!v6, '1')) },
			func(g *Group) { g.Mode(10) },
			func(g *Group) { g.Next(10) },
			func(g *Group) { g.Query(10, quick(), listed(v6, "1")) },
			func(g *Group) { g.Query(10, quick(), nil) },
			func(g *Group) { g.Drop(10, nil, false) },
			func(g *Group) { g.Drop(10, nil, true) },
			func(g *Group) { g.Hear(10, quick(), 0, api.Record{Kind: 7}) },
			func(g *Group) { g.Hear(10, quick(), 0, api.Record{Kind: -1}) },
			// The host of version 1 makes both of these be rejected.
			func(g *Group) { g.Hear(10, quick(), 1, api.Record{Kind: api.Block}) },
			func(g *Group) { g.Hear(10, quick(), 1, api.Record{Kind: api.Block, Sources: listed(v6, "1")}) },
		} {
			g := New(v6)
			at10(g)
			g.Hear(3, quick(), 0, api.Record{Kind: api.IsEx})
			if got, ok := g.Next(4); got != 36 || !ok {
				t.Errorf("V6 %t, call %d: Next = %d, %t, not 36", v6, i, got, ok)
			}
			if got := g.Left(20); got != 16 {
				t.Errorf("V6 %t, call %d: Left(20) = %d, not 16", v6, i, got)
			}
		}
	}
}

// TestNil is for P17.3: each call of no group.
func TestNil(t *testing.T) {
	var g *Group
	r := api.Record{Kind: api.IsEx, Sources: listed(false, "12")}
	for _, now := range []int{math.MinInt, -1, 0, 5, api.MaxTime, math.MaxInt} {
		for _, older := range []int{0, 1, 2} {
			if step, lost := g.Hear(now, quick(), older, r); told(false, step, lost) != "only[]" {
				t.Errorf("Hear: %v, %d", step, lost)
			}
		}
		if g.Query(now, quick(), nil) || g.Query(now, quick(), r.Sources) || g.Drop(now, r.Sources, false) || g.Drop(now, nil, true) {
			t.Errorf("Query or Drop at %d", now)
		}
		if got := seen(g, false, now); got != "only[] mode 3" {
			t.Errorf("at %d: %s", now, got)
		}
		if got := seen(g, true, now); got != "only[] mode 3" {
			t.Errorf("at %d: %s", now, got)
		}
	}
}
