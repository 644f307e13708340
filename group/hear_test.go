package group

import (
	"math"
	"slices"
	"strconv"
	"strings"
	"testing"

	"acequia/addr"
	"acequia/api"
	"acequia/tune"
)

// The groups that records are tried on, and what is seen of each at 10.
const (
	bare     = ""
	bareAt10 = "only[] mode 3"
	// 1, 2 and 3 expire at 26, 27 and 28.
	some     = "0 isin 1; 1 isin 2; 2 isin 3;"
	someAt10 = "only[1:16 2:17 3:18] mode 3 next 26"
	// The group itself expires at 29.
	every     = "3 isex -;"
	everyAt10 = "except[]off[] left 19 mode 3 next 29"
	// So it does here.
	most     = "0 isin 1; 1 isin 2; 2 isin 3; 3 isex 123456;"
	mostAt10 = "except[1:16 2:17 3:18]off[456] left 19 mode 3 next 26"
)

// hearing is what a record at 10 should answer, and what is seen of the group behind it at the same time.
type hearing struct{ before, record, want, seen string }

func heard(t *testing.T, rows []hearing) {
	t.Helper()
	var all []row
	for _, x := range rows {
		calls := x.before + "10 " + x.record
		all = append(all, row{calls, x.want}, row{calls + "; 10 see -", x.seen}, row{x.before + "10 see -; 10 " + x.record + "; 9 see -", x.seen})
	}
	both(t, all)
}

// TestHearOnly is for P17.2: each kind of record, with the group's state without Exclude.
func TestHearOnly(t *testing.T) {
	heard(t, []hearing{
		{bare, "isin -", "only[]", bareAt10},
		{bare, "isin 12", "only[12] full[12]", "only[1:26 2:26] mode 3 next 36"},
		{bare, "allow 12", "only[12] full[12]", "only[1:26 2:26] mode 3 next 36"},
		{bare, "toin 12", "only[12] full[12]", "only[1:26 2:26] mode 3 next 36"},
		{bare, "toin -", "only[]", bareAt10},
		{bare, "block 12", "only[]", bareAt10},
		{bare, "isex -", "except[]off[] group", "except[]off[] left 26 mode 3 next 36"},
		{bare, "isex 12", "except[]off[12] group", "except[]off[12] left 26 mode 3 next 36"},
		{bare, "toex -", "except[]off[] group", "except[]off[] left 26 mode 3 next 36"},
		{bare, "toex 12", "except[]off[12] group", "except[]off[12] left 26 mode 3 next 36"},
		{bare, "kind0 12", "only[]", bareAt10},
		{bare, "kind7 12", "only[]", bareAt10},
		// Sources of On, and others.
		{some, "isin 2357", "only[12357] full[2357]", "only[1:16 2:26 3:26 5:26 7:26] mode 3 next 26"},
		{some, "allow 2357", "only[12357] full[2357]", "only[1:16 2:26 3:26 5:26 7:26] mode 3 next 26"},
		{some, "toin 2357", "only[12357] full[2357] ask[1]", "only[1:16 2:26 3:26 5:26 7:26] mode 3 next 26"},
		{some, "block 2357", "only[123] ask[23]", someAt10},
		{some, "isex 2357", "except[23]off[57] group", "except[2:17 3:18]off[57] left 26 mode 3 next 27"},
		{some, "toex 2357", "except[23]off[57] ask[23] group", "except[2:17 3:18]off[57] left 26 mode 3 next 27"},
		{some, "kind0 2357", "only[123]", someAt10},
		{some, "kind7 2357", "only[123]", someAt10},
		// None.
		{some, "isin -", "only[123]", someAt10},
		{some, "allow -", "only[123]", someAt10},
		{some, "toin -", "only[123] ask[123]", someAt10},
		{some, "block -", "only[123]", someAt10},
		{some, "isex -", "except[]off[] group", "except[]off[] left 26 mode 3 next 36"},
		{some, "toex -", "except[]off[] group", "except[]off[] left 26 mode 3 next 36"},
		// All of On.
		{some, "isin 123", "only[123] full[123]", "only[1:26 2:26 3:26] mode 3 next 36"},
		{some, "allow 321", "only[123] full[123]", "only[1:26 2:26 3:26] mode 3 next 36"},
		{some, "toin 123", "only[123] full[123]", "only[1:26 2:26 3:26] mode 3 next 36"},
		{some, "block 123", "only[123] ask[123]", someAt10},
		{some, "isex 123", "except[123]off[] group", "except[1:16 2:17 3:18]off[] left 26 mode 3 next 26"},
		{some, "toex 123", "except[123]off[] ask[123] group", "except[1:16 2:17 3:18]off[] left 26 mode 3 next 26"},
		// Others alone.
		{some, "isin 07", "only[01237] full[07]", "only[0:26 1:16 2:17 3:18 7:26] mode 3 next 26"},
		{some, "toin 07", "only[01237] full[07] ask[123]", "only[0:26 1:16 2:17 3:18 7:26] mode 3 next 26"},
		{some, "block 07", "only[123]", someAt10},
		{some, "isex 07", "except[]off[07] group", "except[]off[07] left 26 mode 3 next 36"},
		{some, "toex 07", "except[]off[07] group", "except[]off[07] left 26 mode 3 next 36"},
	})
}

// TestHearExcept is for P17.2: each kind of record, with the group's state with Exclude.
func TestHearExcept(t *testing.T) {
	heard(t, []hearing{
		{every, "isin -", "except[]off[]", everyAt10},
		{every, "isin 12", "except[12]off[] full[12]", "except[1:26 2:26]off[] left 19 mode 3 next 29"},
		{every, "allow 12", "except[12]off[] full[12]", "except[1:26 2:26]off[] left 19 mode 3 next 29"},
		{every, "toin 12", "except[12]off[] full[12] all", "except[1:26 2:26]off[] left 19 mode 3 next 29"},
		{every, "toin -", "except[]off[] all", everyAt10},
		{every, "isex -", "except[]off[] group", "except[]off[] left 26 mode 3 next 36"},
		{every, "isex 12", "except[12]off[] full[12] group", "except[1:26 2:26]off[] left 26 mode 3 next 36"},
		{every, "toex -", "except[]off[] group", "except[]off[] left 26 mode 3 next 36"},
		{every, "toex 12", "except[12]off[] rest[12] ask[12] group", "except[1:19 2:19]off[] left 26 mode 3 next 29"},
		{every, "block 12", "except[12]off[] rest[12] ask[12]", "except[1:19 2:19]off[] left 19 mode 3 next 29"},
		{every, "block -", "except[]off[]", everyAt10},
		{every, "kind0 12", "except[]off[]", everyAt10},
		{every, "kind7 12", "except[]off[]", everyAt10},
		// Sources of On, of Off, and others.
		{most, "isin 257", "except[12357]off[46] full[257]", "except[1:16 2:26 3:18 5:26 7:26]off[46] left 19 mode 3 next 26"},
		{most, "allow 257", "except[12357]off[46] full[257]", "except[1:16 2:26 3:18 5:26 7:26]off[46] left 19 mode 3 next 26"},
		{most, "toin 257", "except[12357]off[46] full[257] ask[13] all", "except[1:16 2:26 3:18 5:26 7:26]off[46] left 19 mode 3 next 26"},
		{most, "isex 257", "except[27]off[5] full[7] group", "except[2:17 7:26]off[5] left 26 mode 3 next 27"},
		{most, "toex 257", "except[27]off[5] rest[7] ask[27] group", "except[2:17 7:19]off[5] left 26 mode 3 next 27"},
		{most, "block 257", "except[1237]off[456] rest[7] ask[27]", "except[1:16 2:17 3:18 7:19]off[456] left 19 mode 3 next 26"},
		{most, "kind0 257", "except[123]off[456]", mostAt10},
		{most, "kind7 257", "except[123]off[456]", mostAt10},
		// None.
		{most, "isin -", "except[123]off[456]", mostAt10},
		{most, "allow -", "except[123]off[456]", mostAt10},
		{most, "toin -", "except[123]off[456] ask[123] all", mostAt10},
		{most, "isex -", "except[]off[] group", "except[]off[] left 26 mode 3 next 36"},
		{most, "toex -", "except[]off[] group", "except[]off[] left 26 mode 3 next 36"},
		{most, "block -", "except[123]off[456]", mostAt10},
		// All of On.
		{most, "isin 123", "except[123]off[456] full[123]", "except[1:26 2:26 3:26]off[456] left 19 mode 3 next 29"},
		{most, "toin 123", "except[123]off[456] full[123] all", "except[1:26 2:26 3:26]off[456] left 19 mode 3 next 29"},
		{most, "isex 123", "except[123]off[] group", "except[1:16 2:17 3:18]off[] left 26 mode 3 next 26"},
		{most, "toex 123", "except[123]off[] ask[123] group", "except[1:16 2:17 3:18]off[] left 26 mode 3 next 26"},
		{most, "block 123", "except[123]off[456] ask[123]", mostAt10},
		// All of Off.
		{most, "isin 456", "except[123456]off[] full[456]", "except[1:16 2:17 3:18 4:26 5:26 6:26]off[] left 19 mode 3 next 26"},
		{most, "toin 456", "except[123456]off[] full[456] ask[123] all", "except[1:16 2:17 3:18 4:26 5:26 6:26]off[] left 19 mode 3 next 26"},
		{most, "isex 456", "except[]off[456] group", "except[]off[456] left 26 mode 3 next 36"},
		{most, "toex 456", "except[]off[456] group", "except[]off[456] left 26 mode 3 next 36"},
		{most, "block 456", "except[123]off[456]", mostAt10},
		// Others alone.
		{most, "isin 07", "except[01237]off[456] full[07]", "except[0:26 1:16 2:17 3:18 7:26]off[456] left 19 mode 3 next 26"},
		{most, "toin 07", "except[01237]off[456] full[07] ask[123] all", "except[0:26 1:16 2:17 3:18 7:26]off[456] left 19 mode 3 next 26"},
		{most, "isex 07", "except[07]off[] full[07] group", "except[0:26 7:26]off[] left 26 mode 3 next 36"},
		{most, "toex 07", "except[07]off[] rest[07] ask[07] group", "except[0:19 7:19]off[] left 26 mode 3 next 29"},
		{most, "block 07", "except[01237]off[456] rest[07] ask[07]", "except[0:19 1:16 2:17 3:18 7:19]off[456] left 19 mode 3 next 26"},
	})
}

// TestHearKinds is for P17.2: kinds of records that there are not.
func TestHearKinds(t *testing.T) {
	for _, kind := range []int{math.MinInt, -1, 0, 7, 8, 255, 256 + api.IsIn, math.MaxInt} {
		for _, v6 := range []bool{false, true} {
			for _, before := range []string{bare, some, every, most} {
				g := New(v6)
				run(t, g, v6, before)
				was := seen(g, v6, 10)
				step, lost := g.Hear(10, quick(), 0, api.Record{Kind: kind, Sources: listed(v6, "2579")})
				if told(v6, step, lost) != stated(v6, g.State(10)) {
					t.Errorf("kind %d: %s", kind, told(v6, step, lost))
				}
				if got := seen(g, v6, 10); got != was {
					t.Errorf("kind %d: from %s to %s", kind, was, got)
				}
			}
		}
	}
}

// TestHearTurns is for P17.2: records one after another, and deadlines that go with their sources and come anew.
func TestHearTurns(t *testing.T) {
	both(t, []row{
		// A source that a record removes has no deadline any more: it does not come back by one of its own.
		{"0 isin 12; 5 isex 2; 6 allow 1; 6 see -", "except[1:26 2:20]off[] left 25 mode 3 next 26"},
		{"0 isin 12; 5 isex 2; 6 allow 1; 26 see -", "except[1:6]off[2] left 5 mode 3 next 31"},
		{"0 isin 12; 5 isex -; 26 see -", "except[]off[] left 5 mode 3 next 31"},
		{"0 isex -; 1 isin 12; 5 isex 2; 27 see -", "except[]off[2] left 4 mode 3 next 31"},
		{"0 isex -; 1 isin 12; 5 toex 1; 27 see -", "except[]off[1] left 4 mode 3 next 31"},
		// Rest is the group's deadline as it was: it is set anew by a ToEx, and not by a Block.
		{"0 isex -; 5 toex 1; 6 see -", "except[1:20]off[] left 25 mode 3 next 26"},
		{"0 isex -; 5 toex 1; 6 toex 12; 6 see -", "except[1:20 2:25]off[] left 26 mode 3 next 26"},
		{"0 isex -; 5 block 1; 6 block 2; 6 see -", "except[1:20 2:20]off[] left 20 mode 3 next 26"},
		{"0 isex -; 5 query -; 6 block 1; 6 see -", "except[1:3]off[] left 3 mode 3 next 9"},
		{"0 isex -; 5 query -; 6 toex 1; 6 see -", "except[1:3]off[] left 26 mode 3 next 9"},
		{"0 isex -; 5 query -; 6 isex 1; 6 see -", "except[1:26]off[] left 26 mode 3 next 32"},
		{"0 isex -; 5 block 1; 25 see -", "except[1:1]off[] left 1 mode 3 next 26"},
		{"0 isex -; 5 block 1; 26 see -", "only[] mode 3"},
		{"0 isex -; 5 toex 1; 26 see -", "except[]off[1] left 5 mode 3 next 31"},
		// A member that goes over to some sources leaves the group to the others, till it turns.
		{"0 isex -; 5 toin 1; 26 see -", "only[1:5] mode 3 next 31"},
		{"0 isex -; 5 toin 1; 5 query -; 9 see -", "only[1:22] mode 3 next 31"},
		{"0 isex 12; 5 toin 1; 5 query -; 8 see -", "except[1:23]off[2] left 1 mode 3 next 9"},
		{"0 isex 12; 5 toin 1; 5 query -; 9 see -", "only[1:22] mode 3 next 31"},
		{"0 isex 12; 5 toin 1; 5 query -; 7 isex 2; 9 see -", "except[]off[2] left 24 mode 3 next 33"},
		{"0 isin 12; 5 block 1; 5 query 1; 9 see -", "only[2:17] mode 3 next 26"},
		{"0 isin 12; 5 block 1; 5 query 1; 8 isin 1; 9 see -", "only[1:25 2:17] mode 3 next 26"},
	})
}

// TestHearOlder is for P17.2: each kind of record in each mode; the record of an older host is in its mode itself.
func TestHearOlder(t *testing.T) {
	const in = "3 kind0/"
	for _, x := range []struct {
		v6   bool
		mode string
		rows []row
	}{
		{false, "1", []row{
			{some + in + "1 -; 10 isin 27", "only[1237] full[27]"},
			{some + in + "1 -; 10 allow 27", "only[1237] full[27]"},
			{some + in + "1 -; 10 toin 27", "only[123]"},
			{some + in + "1 -; 10 block 27", "only[123]"},
			{some + in + "1 -; 10 isex 27", "except[2]off[7] group"},
			{some + in + "1 -; 10 toex 27", "except[]off[] group"},
			{some + in + "1 -; 10 kind0 27", "only[123]"},
			{some + in + "1 -; 10 kind7 27", "only[123]"},
			{most + in + "1 -; 10 isin 257", "except[12357]off[46] full[257]"},
			{most + in + "1 -; 10 toin 257", "except[123]off[456]"},
			{most + in + "1 -; 10 block 257", "except[123]off[456]"},
			{most + in + "1 -; 10 isex 257", "except[27]off[5] full[7] group"},
			{most + in + "1 -; 10 toex 257", "except[]off[] group"},
			{most + "3 isex/2 123456;" + in + "1 -; 10 toin 257", "except[123]off[456]"},
			// Of the host itself.
			{some + "10 toin/1 27", "only[123]"},
			{some + "10 block/1 27", "only[123]"},
			{some + "10 toex/1 27", "except[]off[] group"},
			{some + "10 isin/1 27", "only[1237] full[27]"},
			{most + "10 toin/1 27", "except[123]off[456]"},
			{most + "10 block/1 27", "except[123]off[456]"},
		}},
		{false, "2", []row{
			{some + in + "2 -; 10 isin 27", "only[1237] full[27]"},
			{some + in + "2 -; 10 allow 27", "only[1237] full[27]"},
			{some + in + "2 -; 10 toin 27", "only[1237] full[27] ask[13]"},
			{some + in + "2 -; 10 block 27", "only[123]"},
			{some + in + "2 -; 10 isex 27", "except[2]off[7] group"},
			{some + in + "2 -; 10 toex 27", "except[]off[] group"},
			{some + in + "2 -; 10 kind0 27", "only[123]"},
			{some + in + "2 -; 10 kind7 27", "only[123]"},
			{most + in + "2 -; 10 toin 257", "except[12357]off[46] full[257] ask[13] all"},
			{most + in + "2 -; 10 block 257", "except[123]off[456]"},
			{most + in + "2 -; 10 toex 257", "except[]off[] group"},
			{some + "10 toin/2 27", "only[1237] full[27] ask[13]"},
			{some + "10 block/2 27", "only[123]"},
			{some + "10 toex/2 27", "except[]off[] group"},
			{most + "10 toin/2 -", "except[123]off[456] ask[123] all"},
		}},
		{true, "1", []row{
			{some + in + "1 -; 10 isin 27", "only[1237] full[27]"},
			{some + in + "1 -; 10 allow 27", "only[1237] full[27]"},
			{some + in + "1 -; 10 toin 27", "only[1237] full[27] ask[13]"},
			{some + in + "1 -; 10 block 27", "only[123]"},
			{some + in + "1 -; 10 isex 27", "except[2]off[7] group"},
			{some + in + "1 -; 10 toex 27", "except[]off[] group"},
			{most + in + "1 -; 10 toin 257", "except[12357]off[46] full[257] ask[13] all"},
			{most + in + "1 -; 10 block 257", "except[123]off[456]"},
			{most + in + "1 -; 10 toex 257", "except[]off[] group"},
			{some + "10 toin/1 27", "only[1237] full[27] ask[13]"},
			{some + "10 block/1 27", "only[123]"},
			{some + "10 toex/1 27", "except[]off[] group"},
		}},
		{false, "3", latest(in)},
		{true, "2", latest(in)},
	} {
		for _, y := range x.rows {
			g := New(x.v6)
			if got := run(t, g, x.v6, y.calls); got != y.want {
				t.Errorf("V6 %t, mode %s, %s:\n   %s\nnot %s", x.v6, x.mode, y.calls, got, y.want)
			}
			if got := strconv.Itoa(g.Mode(10)); got != x.mode {
				t.Errorf("V6 %t, %s: mode %s, not %s", x.v6, y.calls, got, x.mode)
			}
		}
	}
}

// latest are rows in the latest version, whatever numbers of versions hosts are said to have that there are not.
func latest(in string) []row {
	var out []row
	for _, older := range []string{"0", "3", "4", "-1", "-2", "257"} {
		out = append(out,
			row{some + in + older + " -; 10 toin 27", "only[1237] full[27] ask[13]"},
			row{some + in + older + " -; 10 block 27", "only[123] ask[2]"},
			row{some + in + older + " -; 10 toex 27", "except[2]off[7] ask[2] group"},
			row{some + "10 block/" + older + " 27", "only[123] ask[2]"},
			row{most + "10 toex/" + older + " 257", "except[27]off[5] rest[7] ask[27] group"},
		)
	}
	// When the older hosts are gone.
	for _, older := range []string{"1", "2"} {
		out = append(out, row{"0 isin/" + older + " -; 25 isin 12; 26 block 2", "only[12] ask[2]"})
	}
	return out
}

// TestHearRejected is for P17.2: a record that does not count leaves all deadlines as they are, but for that of its host's version.
func TestHearRejected(t *testing.T) {
	for _, x := range []row{
		{some + "10 toin/1 27; 10 see -", "only[1:16 2:17 3:18] mode 1 next 26"},
		{some + "10 block/1 27; 10 see -", "only[1:16 2:17 3:18] mode 1 next 26"},
		{some + "10 block/2 27; 10 see -", "only[1:16 2:17 3:18] mode 2 next 26"},
		{most + "10 toin/1 27; 10 see -", "except[1:16 2:17 3:18]off[456] left 19 mode 1 next 26"},
		{most + "10 block/1 257; 10 see -", "except[1:16 2:17 3:18]off[456] left 19 mode 1 next 26"},
		{most + "10 toex/1 257; 10 see -", "except[]off[] left 26 mode 1 next 36"},
		{most + "10 toex/2 257; 10 see -", "except[]off[] left 26 mode 2 next 36"},
		{"0 isin " + letters[:32] + "; 10 block/2 wxyz", "only[" + letters[:32] + "]"},
		{"0 isin " + letters[:32] + "; 10 toin/1 wxyz", "only[" + letters[:32] + "]"},
		{"0 isex " + letters[:32] + "; 10 block/1 wxyz", "except[]off[" + letters[:32] + "]"},
		// Without its sources, none of them can be one too many.
		{"0 isex " + letters[:32] + "; 10 toex/2 wxyz", "except[]off[] group"},
	} {
		if got := run(t, New(false), false, x.calls); got != x.want {
			t.Errorf("%s:\n   %s\nnot %s", x.calls, got, x.want)
		}
	}
}

// TestHearSources is for P17.2: sources that are not good, of the other family, twice, or in no order.
func TestHearSources(t *testing.T) {
	bent := func(letter byte, place int) api.Addr {
		a := source(false, letter)
		a.B[place] = 1
		return a
	}
	for _, v6 := range []bool{false, true} {
		own := func(s string) list { return listed(v6, s) }
		other := listed(!v6, "0123")
		for i, l := range []list{
			own("54321"),
			own("1234512345"),
			own("3142535"),
			slices.Concat(own("543"), other, own("21")),
			slices.Concat(other, own("12345")),
			slices.Concat(own("12345"), other, other),
			slices.Concat(own("123"), list{bent('1', 4), bent('1', 15), bent('6', 4), bent('6', 15)}, own("45")),
			slices.Concat(list{bent('4', 9), bent('5', 8)}, own("5544"), own("123"), list{bent('3', 5)}),
		} {
			for kind, want := range map[int]string{
				api.IsIn:  "only[1234567] full[12345]",
				api.IsEx:  "except[12]off[345] group",
				api.ToIn:  "only[1234567] full[12345] ask[67]",
				api.ToEx:  "except[12]off[345] ask[12] group",
				api.Allow: "only[1234567] full[12345]",
				api.Block: "only[1267] ask[12]",
			} {
				g := New(v6)
				run(t, g, v6, "0 isin 1267")
				step, lost := g.Hear(1, quick(), 0, api.Record{Kind: kind, Sources: l})
				if got := told(v6, step, lost); got != want {
					t.Errorf("V6 %t, list %d, %s:\n   %s\nnot %s", v6, i, kinds()[kind], got, want)
				}
			}
		}
		// A list of nothing that the group can have is like none.
		g := New(v6)
		run(t, g, v6, "0 isin 12")
		step, lost := g.Hear(1, quick(), 0, api.Record{Kind: api.IsEx, Sources: append(slices.Clone(other), bent('1', 7))})
		if got := told(v6, step, lost); got != "except[]off[] group" {
			t.Errorf("V6 %t: %s", v6, got)
		}
	}
}

// TestHearGroup is for P17.2: whose record it is said to be does not matter.
func TestHearGroup(t *testing.T) {
	for _, v6 := range []bool{false, true} {
		for _, whose := range []api.Addr{{}, {V6: true}, addr.Ip4(239, 1, 2, 3), addr.Ip4(10, 0, 0, 1), {V6: true, B: [16]byte{255, 5}}, {B: [16]byte{239, 1, 1, 1, 1}}} {
			g := New(v6)
			step, lost := g.Hear(1, quick(), 0, api.Record{Kind: api.IsIn, Group: whose, Sources: listed(v6, "12")})
			if got := told(v6, step, lost); got != "only[12] full[12]" {
				t.Errorf("V6 %t, of %v: %s", v6, whose, got)
			}
		}
	}
}

// TestRoom is for P17.2: MaxKept less one, MaxKept, and one more, in one record.
func TestRoom(t *testing.T) {
	for _, x := range []struct{ name, state, after string }{
		{"isin", "only[*]", "full[*]"},
		{"toin", "only[*]", "full[*]"},
		{"allow", "only[*]", "full[*]"},
		{"isex", "except[]off[*]", "group"},
		{"toex", "except[]off[*]", "group"},
		{"kind0", "only[]", ""},
		{"kind7", "only[]", ""},
	} {
		var rows []row
		for _, n := range []int{0, 1, 31, 32, 33, 34, 62} {
			want := strings.TrimSpace(strings.ReplaceAll(x.state+" "+x.after, "*", letters[:min(n, 32)]))
			want = strings.TrimSuffix(want, " full[]")
			if n > 32 {
				want += " lost " + strconv.Itoa(n-32)
			}
			rows = append(rows, row{"0 " + x.name + " -" + letters[:n], want}, row{"0 " + x.name + " -" + reversed(letters[:n]), want})
		}
		both(t, rows)
	}
	// Nothing of a Block is kept without Exclude.
	both(t, []row{
		{"0 block " + letters, "only[]"},
		{"0 isin 12; 1 block " + letters, "only[12] ask[12]"},
		{"0 isin " + letters[:32] + "; 1 block " + letters, "only[" + letters[:32] + "] ask[" + letters[:32] + "]"},
		{"0 isin " + letters[30:62] + "; 1 block " + letters, "only[" + letters[30:62] + "] ask[" + letters[30:62] + "]"},
	})
}

func reversed(s string) string {
	b := []byte(s)
	slices.Reverse(b)
	return string(b)
}

// TestRoomLeft is for P17.2: what is kept counts, in On and in Off; of the others the first ones are used. Those that are kept remain, and can be in a record whatever their place.
func TestRoomLeft(t *testing.T) {
	// 30 are kept, from 4 on: there is room for two.
	const kept = "456789abcdefghijklmnopqrstuvwx"
	if len(kept) != 30 {
		t.Fatal("not 30")
	}
	on, off := kept[:15], kept[15:]
	const (
		only   = "0 isin " + kept + ";"
		except = "0 isin 456789abcdefghi; 0 isex " + kept + ";"
		outer  = "0 isex " + kept + ";"
	)
	both(t, []row{
		{only + "1 isin z", "only[" + kept + "z] full[z]"},
		{only + "1 isin zy", "only[" + kept + "yz] full[yz]"},
		{only + "1 isin zyA", "only[" + kept + "yz] full[yz] lost 1"},
		{only + "1 isin A3z20y1", "only[01" + kept + "] full[01] lost 5"},
		{only + "1 allow A3x", "only[3" + kept + "A] full[3xA]"},
		{only + "1 allow zA3x", "only[3" + kept + "z] full[3xz] lost 1"},
		{only + "1 allow 0123", "only[01" + kept + "] full[01] lost 2"},
		{only + "1 allow x0123w4", "only[01" + kept + "] full[014wx] lost 2"},
		{only + "1 toin 5zA3x", "only[3" + kept + "z] full[35xz] ask[" + strings.NewReplacer("5", "", "x", "").Replace(kept) + "] lost 1"},
		{only + "1 isex zA3x", "except[x]off[3z] group lost 1"},
		{only + "1 isex zA3" + kept, "except[" + kept + "]off[3z] group lost 1"},
		{only + "1 toex zA3x", "except[x]off[3z] ask[x] group lost 1"},
		{only + "1 block zA3x", "only[" + kept + "] ask[x]"},
		{only + "1 kind0 zA3x", "only[" + kept + "] lost 1"},
		{only + "1 kind7 zA3x", "only[" + kept + "] lost 1"},
		{except + "1 isin zA3x4", "except[3" + on + "xz]off[" + off[:14] + "] full[34xz] lost 1"},
		{except + "1 allow zA3x4", "except[3" + on + "xz]off[" + off[:14] + "] full[34xz] lost 1"},
		{except + "1 toin zA3x4", "except[3" + on + "xz]off[" + off[:14] + "] full[34xz] ask[" + on[1:] + "] all lost 1"},
		{except + "1 isex zA3x4", "except[34z]off[x] full[3z] group lost 1"},
		{except + "1 toex zA3x4", "except[34z]off[x] rest[3z] ask[34z] group lost 1"},
		{except + "1 block zA3x4", "except[3" + on + "z]off[" + off + "] rest[3z] ask[34z] lost 1"},
		{except + "1 kind0 zA3x4", "except[" + on + "]off[" + off + "] lost 1"},
		{outer + "1 isin 0123", "except[01]off[" + kept + "] full[01] lost 2"},
		{outer + "1 block 0123", "except[01]off[" + kept + "] rest[01] ask[01] lost 2"},
		{outer + "1 block 3", "except[3]off[" + kept + "] rest[3] ask[3]"},
		{outer + "1 isex 3zy", "except[3y]off[] full[3y] group lost 1"},
		// What a record takes away makes room for the next one alone.
		{only + "1 isex zA3x; 2 isin " + letters, "except[" + letters[:30] + "xz]off[] full[" + letters[:30] + "xz] lost 30"},
		{only + "1 isex -; 2 isex " + letters, "except[" + letters[:32] + "]off[] full[" + letters[:32] + "] group lost 30"},
		{only + "26 isin " + letters, "only[" + letters[:32] + "] full[" + letters[:32] + "] lost 30"},
		{only + "25 isin " + letters, "only[01" + kept + "] full[01" + kept + "] lost 30"},
	})
}

// TestRoomFull is for P17.2: On and Off that are full ahead of the record: those that are kept remain, for each kind.
func TestRoomFull(t *testing.T) {
	all := letters[:32]
	on, off := letters[:10], letters[10:32]
	only := "0 isin " + all + ";"
	except := "0 isin " + on + "; 0 isex " + all + ";"
	grown := "0 isin " + letters[:31] + "; 0 isin v; 1 isin w; 1 isin 0w;"
	var rows []row
	for _, x := range []struct{ record, only, except string }{
		{"isin yz", "only[*] lost 2", "except[+]off[-] lost 2"},
		{"isin 0yz", "only[*] full[0] lost 2", "except[+]off[-] full[0] lost 2"},
		{"allow yz", "only[*] lost 2", "except[+]off[-] lost 2"},
		{"toin yz", "only[*] ask[*] lost 2", "except[+]off[-] ask[+] all lost 2"},
		{"block yz", "only[*]", "except[+]off[-] lost 2"},
		{"block y0z", "only[*] ask[0]", "except[+]off[-] ask[0] lost 2"},
		{"isex " + all + "yz", "except[*]off[] group lost 2", "except[+]off[-] group lost 2"},
		{"toex " + all + "yz", "except[*]off[] ask[*] group lost 2", "except[+]off[-] ask[+] group lost 2"},
		{"isex y", "except[]off[] group lost 1", "except[]off[] group lost 1"},
		{"toex y", "except[]off[] group lost 1", "except[]off[] group lost 1"},
		{"kind0 yz", "only[*] lost 2", "except[+]off[-] lost 2"},
		{"kind7 yz", "only[*] lost 2", "except[+]off[-] lost 2"},
		{"isin " + letters, "only[*] full[*] lost 30", "except[*]off[] full[*] lost 30"},
		{"block " + letters, "only[*] ask[*]", "except[+]off[-] ask[+] lost 30"},
	} {
		names := strings.NewReplacer("*", all, "+", on, "-", off)
		rows = append(rows, row{only + "1 " + x.record, names.Replace(x.only)}, row{except + "1 " + x.record, names.Replace(x.except)})
	}
	rows = append(rows, row{grown + "1 isin w", "only[" + all + "] lost 1"}, row{grown + "2 kind0 -", "only[" + all + "]"})
	both(t, rows)
}

// TestTunes is for P17.2 and P17.3: what is set is that of the parameters of the call.
func TestTunes(t *testing.T) {
	for _, x := range []struct {
		tune          api.Tune
		member, final int
	}{
		{tune.Usual(), 2600, 20},
		{quick(), 26, 4},
		{api.Tune{Robust: 1, Every: 1, Resp: 1, Last: 1, Count: 1}, 2, 1},
		{api.Tune{Robust: 7, Every: 317440, Resp: 31744, Last: 31744, Count: 7}, 2253824, 222208},
		{api.Tune{Robust: 3, Every: 100, Resp: 7, Last: 5, Count: 2}, 307, 10},
	} {
		g := New(false)
		g.Hear(5, x.tune, 2, api.Record{Kind: api.IsEx, Sources: listed(false, "1")})
		g.Hear(5, x.tune, 0, api.Record{Kind: api.Allow, Sources: listed(false, "23")})
		if g.Left(5) != x.member || g.Source(5, source(false, '2')) != x.member {
			t.Errorf("%v: %d and %d left", x.tune, g.Left(5), g.Source(5, source(false, '2')))
		}
		if !g.Query(5, x.tune, listed(false, "2")) || !g.Query(5, x.tune, nil) {
			t.Errorf("%v: the queries change nothing", x.tune)
		}
		if g.Left(5) != x.final || g.Source(5, source(false, '2')) != x.final || g.Source(5, source(false, '3')) != x.member {
			t.Errorf("%v: %d and %d left", x.tune, g.Left(5), g.Source(5, source(false, '2')))
		}
		if g.Mode(4+x.member) != 2 || g.Mode(5+x.member) != 3 {
			t.Errorf("%v: the older host does not count till %d", x.tune, 5+x.member)
		}
	}
}
