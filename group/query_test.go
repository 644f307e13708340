package group

import (
	"testing"

	"acequia/api"
)

// TestQuery is for P17.3: deadlines that are earlier than the last members', equal to them, and later; and what is reported.
func TestQuery(t *testing.T) {
	// The last members' time is 4: from 22, 23 and 24 on 1, 2 and 3 have no more left, from 25 on the group itself.
	var rows []row
	for _, x := range []struct{ calls, want, seen string }{
		// Of the whole group: of one without Exclude nothing has that deadline.
		{"10 query -", "false", "only[] mode 3"},
		{some + "10 query -", "false", "only[1:16 2:17 3:18] mode 3 next 26"},
		{most + "10 query -", "true", "except[1:16 2:17 3:18]off[456] left 4 mode 3 next 14"},
		{most + "24 query -", "true", "except[1:2 2:3 3:4]off[456] left 4 mode 3 next 26"},
		{most + "25 query -", "false", "except[1:1 2:2 3:3]off[456] left 4 mode 3 next 26"},
		{most + "26 query -", "false", "except[2:1 3:2]off[1456] left 3 mode 3 next 27"},
		{most + "10 query -; 10 query -", "false", "except[1:16 2:17 3:18]off[456] left 4 mode 3 next 14"},
		{most + "10 query -; 11 query -", "false", "except[1:15 2:16 3:17]off[456] left 3 mode 3 next 14"},
		{most + "10 query -; 11 isex 1456; 12 query -", "true", "except[1:14]off[456] left 4 mode 3 next 16"},
		// Of sources of On.
		{some + "10 query 1", "true", "only[1:4 2:17 3:18] mode 3 next 14"},
		{some + "10 query 13", "true", "only[1:4 2:17 3:4] mode 3 next 14"},
		{some + "10 query 31", "true", "only[1:4 2:17 3:4] mode 3 next 14"},
		{some + "10 query 3313", "true", "only[1:4 2:17 3:4] mode 3 next 14"},
		{most + "10 query 1", "true", "except[1:4 2:17 3:18]off[456] left 19 mode 3 next 14"},
		{most + "10 query 23", "true", "except[1:16 2:4 3:4]off[456] left 19 mode 3 next 14"},
		{some + "21 query 1", "true", "only[1:4 2:6 3:7] mode 3 next 25"},
		{some + "22 query 1", "false", "only[1:4 2:5 3:6] mode 3 next 26"},
		{some + "23 query 1", "false", "only[1:3 2:4 3:5] mode 3 next 26"},
		{some + "23 query 12", "false", "only[1:3 2:4 3:5] mode 3 next 26"},
		{some + "23 query 123", "true", "only[1:3 2:4 3:4] mode 3 next 26"},
		{some + "23 query 13", "true", "only[1:3 2:4 3:4] mode 3 next 26"},
		{some + "22 query 12", "true", "only[1:4 2:4 3:6] mode 3 next 26"},
		{some + "10 query 1; 10 query 1", "false", "only[1:4 2:17 3:18] mode 3 next 14"},
		{some + "10 query 1; 11 query 12", "true", "only[1:3 2:4 3:17] mode 3 next 14"},
		// Of sources of Off, and of neither.
		{most + "10 query 4", "false", "except[1:16 2:17 3:18]off[456] left 19 mode 3 next 26"},
		{most + "10 query 07", "false", "except[1:16 2:17 3:18]off[456] left 19 mode 3 next 26"},
		{some + "10 query 07", "false", "only[1:16 2:17 3:18] mode 3 next 26"},
		{most + "10 query 742", "true", "except[1:16 2:4 3:18]off[456] left 19 mode 3 next 14"},
		{most + "10 query 247", "true", "except[1:16 2:4 3:18]off[456] left 19 mode 3 next 14"},
		{"10 query 1", "false", "only[] mode 3"},
		{"3 isex -; 10 query 1", "false", "except[]off[] left 19 mode 3 next 29"},
		// All of them.
		{most + "10 query 0123456789", "true", "except[1:4 2:4 3:4]off[456] left 19 mode 3 next 14"},
	} {
		rows = append(rows, row{x.calls, x.want}, row{x.calls + "; 0 see -", x.seen})
	}
	both(t, rows)
}

// TestQueryEnds is for P17.3: what is not heard of till then expires.
func TestQueryEnds(t *testing.T) {
	both(t, []row{
		{"0 isex 12; 5 query -; 8 see -", "except[]off[12] left 1 mode 3 next 9"},
		{"0 isex 12; 5 query -; 9 see -", "only[] mode 3"},
		{"0 isex -; 1 isin 1; 5 query -; 9 see -", "only[1:18] mode 3 next 27"},
		{"0 isex -; 1 isin 12; 5 query 1; 9 see -", "except[2:18]off[1] left 17 mode 3 next 26"},
		{"0 isin 12; 5 query 1; 8 see -", "only[1:1 2:18] mode 3 next 9"},
		{"0 isin 12; 5 query 1; 9 see -", "only[2:17] mode 3 next 26"},
		{"0 isin 12; 5 query 12; 9 see -", "only[] mode 3"},
		{"0 isin 12; 5 query 12; 8 isin 1; 9 see -", "only[1:25] mode 3 next 34"},
	})
}

// TestDrop is for P17.3: lists of sources of On, of Off, of neither, of none, and of all of On, with all and without it; and what is reported.
func TestDrop(t *testing.T) {
	var rows []row
	for _, x := range []struct{ before, l, want, seen, wantAll, seenAll string }{
		{bare, "-", "false", bareAt10, "false", bareAt10},
		{bare, "12", "false", bareAt10, "false", bareAt10},
		{some, "-", "false", someAt10, "false", someAt10},
		{some, "1", "true", "only[2:17 3:18] mode 3 next 27", "true", "only[2:17 3:18] mode 3 next 27"},
		{some, "31", "true", "only[2:17] mode 3 next 27", "true", "only[2:17] mode 3 next 27"},
		{some, "3131", "true", "only[2:17] mode 3 next 27", "true", "only[2:17] mode 3 next 27"},
		{some, "123", "true", bareAt10, "true", bareAt10},
		{some, "0123456", "true", bareAt10, "true", bareAt10},
		{some, "4560", "false", someAt10, "false", someAt10},
		{some, "470213", "true", bareAt10, "true", bareAt10},
		{every, "-", "false", everyAt10, "true", bareAt10},
		{every, "12", "false", everyAt10, "true", bareAt10},
		{most, "-", "false", mostAt10, "true", someAt10},
		{most, "1", "true", "except[2:17 3:18]off[1456] left 19 mode 3 next 27", "true", "only[2:17 3:18] mode 3 next 27"},
		{most, "13", "true", "except[2:17]off[13456] left 19 mode 3 next 27", "true", "only[2:17] mode 3 next 27"},
		{most, "321", "true", "except[]off[123456] left 19 mode 3 next 29", "true", bareAt10},
		{most, "45", "false", mostAt10, "true", someAt10},
		{most, "456", "false", mostAt10, "true", someAt10},
		{most, "07", "false", mostAt10, "true", someAt10},
		{most, "7420", "true", "except[1:16 3:18]off[2456] left 19 mode 3 next 26", "true", "only[1:16 3:18] mode 3 next 26"},
		{most, letters, "true", "except[]off[123456] left 19 mode 3 next 29", "true", bareAt10},
	} {
		once, all := x.before+"10 drop "+x.l, x.before+"10 drop+ "+x.l
		rows = append(rows,
			row{once, x.want}, row{once + "; 10 see -", x.seen}, row{once + "; 10 drop " + x.l, "false"},
			row{all, x.wantAll}, row{all + "; 10 see -", x.seenAll}, row{all + "; 10 drop+ " + x.l, "false"})
	}
	both(t, rows)
}

// TestDropOrder is for P17.3: sources go before the group, so that nothing of them is left behind.
func TestDropOrder(t *testing.T) {
	both(t, []row{
		{"0 isex -; 1 isin 123; 5 drop+ 12; 5 see -", "only[3:22] mode 3 next 27"},
		{"0 isin 12; 0 isex 123; 5 drop+ 12; 5 see -", "only[] mode 3"},
		// Those of earlier deadlines and those that are dropped.
		{"0 isex -; 0 isin 1; 1 isin 2; 26 drop+ 2; 26 see -", "only[] mode 3"},
		{"0 isex -; 0 isin 1; 1 isin 2; 26 drop+ 1; 26 see -", "only[2:1] mode 3 next 27"},
		// What was dropped comes back, and is new.
		{"0 isex 1; 5 drop+ -; 6 isin 1; 6 see -", "only[1:26] mode 3 next 32"},
		{"0 isin 1; 5 drop 1; 6 isin 1; 6 see -", "only[1:26] mode 3 next 32"},
		{"0 isin 1; 5 drop 1; 6 isex 1; 26 see -", "except[]off[1] left 6 mode 3 next 32"},
		{"0 isex -; 0 isin 1; 5 drop 1; 6 isin 1; 26 see -", "only[1:6] mode 3 next 32"},
		{"0 isex -; 5 drop+ -; 6 isex -; 26 see -", "except[]off[] left 6 mode 3 next 32"},
	})
}

// TestOddSources is for P17.3: sources that are not good, or of the other family, are none of the group's, and yet a query for them is not for all of it.
func TestOddSources(t *testing.T) {
	for _, v6 := range []bool{false, true} {
		var odd list
		for i := range 12 {
			a := source(false, '1')
			a.B[4+i] = 1
			odd = append(odd, a)
		}
		odd = append(odd, listed(!v6, "123456")...)
		g := New(v6)
		was := run(t, g, v6, most+"10 see -")
		if g.Query(10, quick(), odd) {
			t.Errorf("V6 %t: Query", v6)
		}
		if g.Drop(10, odd, false) {
			t.Errorf("V6 %t: Drop", v6)
		}
		for _, a := range odd {
			if g.Query(10, quick(), list{a}) || g.Drop(10, list{a}, false) || g.Source(10, a) != 0 {
				t.Errorf("V6 %t: %v", v6, a)
			}
		}
		if got := seen(g, v6, 10); got != was {
			t.Errorf("V6 %t: from %s to %s", v6, was, got)
		}
		if !g.Drop(10, odd, true) || g.State(10).Exclude {
			t.Errorf("V6 %t: all is not dropped", v6)
		}
		g = New(v6)
		run(t, g, v6, most)
		mixed := append(odd, source(v6, '2'))
		if !g.Query(10, quick(), mixed) || g.Source(10, source(v6, '2')) != 4 || !g.Drop(10, mixed, false) || g.Source(10, source(v6, '2')) != 0 {
			t.Errorf("V6 %t: what is good beside others does not count", v6)
		}
	}
}

// TestBeside is for the whole: nothing that is done to one group is seen in another one.
func TestBeside(t *testing.T) {
	for _, v6 := range []bool{false, true} {
		g, h, other := New(v6), New(v6), New(!v6)
		run(t, g, v6, most)
		was := seen(g, v6, 10)
		run(t, h, v6, "20 isex/1 1; 21 drop+ -; 22 toin 123; 23 query 1")
		run(t, other, !v6, "0 isin 123; 20 isex 456; 21 drop 123")
		h.State(10000)
		other.State(10000)
		if got := seen(g, v6, 10); got != was {
			t.Errorf("from %s to %s", was, got)
		}
	}
}

// TestUnmade is for the whole: no call panics, of a group that New did not make, or with parameters that are not good.
func TestUnmade(t *testing.T) {
	for _, x := range []api.Tune{{}, quick(), {Robust: -1, Every: 5, Resp: 5, Last: -5, Count: 3}, {Robust: 1 << 62, Every: 1 << 62, Resp: -1 << 62, Last: 1 << 62, Count: 1 << 62}, {Robust: 1, Every: 1<<63 - 1, Resp: 9, Last: 1<<63 - 1, Count: 1}} {
		for _, g := range []*Group{{}, New(false), New(true)} {
			for now := range 40 {
				for kind := range 8 {
					l := listed(kind%2 == 0, letters[now:now+kind])
					g.Hear(now, x, kind-2, api.Record{Kind: kind, Sources: append(l, listed(now%2 == 0, letters[now:])...)})
					g.Query(now, x, l)
					seen(g, now%2 == 0, now)
				}
				g.Query(now, x, nil)
				g.Drop(now, listed(now%3 == 0, letters[now:]), now%4 == 0)
			}
		}
	}
}
